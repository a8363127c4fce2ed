package list

import (
	"slices"
	"strconv"

	"threadbare/api"
	"threadbare/text"
)

// by returns the comparison of what a form makes of two texts.
func by[T any](form func(string) T, compare func(a, b T) int) func(a, b string) int {
	return func(a, b string) int { return compare(form(a), form(b)) }
}

func turned(compare func(a, b string) int) func(a, b string) int {
	return func(a, b string) int { return compare(b, a) }
}

func number(s string) int {
	n, _ := strconv.Atoi(s)
	return n
}

func isNumber(s string) bool {
	if s != "" && s[0] == '-' {
		s = s[1:]
	}
	ok, _ := text.Is("digit", s)
	return ok && len(s) >= 1 && len(s) <= 18
}

func order(kind int) func(a, b string) int {
	switch kind {
	case 0:
		return text.Compare
	case 1:
		return by(number, func(a, b int) int { return a - b })
	}
	return by(text.Lower, text.Compare)
}

// Sort sorts the elements by a kind.
func Sort(s string, kind int, down, unique bool) (string, api.Errno) {
	if kind < 0 || kind > 2 {
		return "", api.ErrInvalid
	}
	l, _, e := all(s)
	if e != api.OK {
		return "", e
	}
	for _, s := range l {
		if kind == 1 && !isNumber(s) {
			return "", api.ErrKind
		}
	}
	if e := tooMany(l); e != api.OK {
		return "", e
	}
	compare := order(kind)
	if down {
		compare = turned(compare)
	}
	slices.SortStableFunc(l, compare)
	if unique {
		l = lastOfEqual(l, compare)
	}
	return Join(l)
}

func lastOfEqual(l []string, compare func(a, b string) int) []string {
	var r []string
	for i, s := range l {
		if i+1 == len(l) || compare(s, l[i+1]) != 0 {
			r = append(r, s)
		}
	}
	return r
}

func fitting(pattern string, kind int) func(s string) bool {
	if kind == 0 {
		return func(s string) bool { return s == pattern }
	}
	return func(s string) bool { return text.Glob(pattern, s, kind == 2) }
}

// Search returns the first index, from or more, of an element that fits a pattern.
func Search(s, pattern string, kind, from int) (int, api.Errno) {
	if kind < 0 || kind > 2 {
		return 0, api.ErrInvalid
	}
	l, _, e := Split(s)
	if e != api.OK {
		return 0, e
	}
	fits := fitting(pattern, kind)
	for i := max(from, 0); i < len(l); i++ {
		if fits(l[i]) {
			return i, api.OK
		}
	}
	return -1, api.OK
}
