package packs

import (
	"cmp"
	"slices"
	"strconv"
	"strings"

	"threadbare/api"
	"threadbare/text"
)

const (
	maxNumbers = 20
	maxDigits  = 9
)

// version is a version as a list; stable, if it has only dots.
type version struct {
	list   []int
	stable bool
}

// read reads a version; false if it is none.
func read(s string) (version, bool) {
	v := version{stable: true}
	count := 0
	for {
		end := 0
		for end < len(s) && s[end] >= '0' && s[end] <= '9' {
			end++
		}
		if end == 0 || end > maxDigits || end > 1 && s[0] == '0' {
			return version{}, false
		}
		n, _ := strconv.Atoi(s[:end])
		v.list = append(v.list, n)
		count++
		if end == len(s) {
			return v, count <= maxNumbers
		}
		switch c := s[end]; {
		case c == '.':
		case (c == 'a' || c == 'b') && v.stable:
			v.list = append(v.list, int(c)-'a'-2)
			v.stable = false
		default:
			return version{}, false
		}
		s = s[end+1:]
	}
}

// lists compares lists; what lacks counts as 0.
func lists[T cmp.Ordered](a, b []T) int {
	for i := range max(len(a), len(b)) {
		var x, y T
		if i < len(a) {
			x = a[i]
		}
		if i < len(b) {
			y = b[i]
		}
		if c := cmp.Compare(x, y); c != 0 {
			return c
		}
	}
	return 0
}

func (v version) compare(w version) int { return lists(v.list, w.list) }

// better reports whether a version is better than another one.
func (v version) better(w version, stable bool) bool {
	if stable && v.stable != w.stable {
		return v.stable
	}
	return v.compare(w) > 0
}

// Valid reports whether a text is a version.
func Valid(v string) bool {
	_, ok := read(v)
	return ok
}

// asked tells something of a version.
func asked[T any](s string, tell func(v version) T) (r T, e api.Errno) {
	v, ok := read(s)
	if !ok {
		return r, api.ErrSyntax
	}
	return tell(v), api.OK
}

// Compare compares versions.
func Compare(a, b string) (int, api.Errno) {
	w, ok := read(b)
	if !ok {
		return 0, api.ErrSyntax
	}
	return asked(a, func(v version) int { return v.compare(w) })
}

// Normal returns a version without .0 at its end.
func Normal(v string) (string, api.Errno) {
	return asked(v, func(version) string {
		for strings.HasSuffix(v, ".0") {
			v = v[:len(v)-2]
		}
		return v
	})
}

// Stable reports whether a version has only dots.
func Stable(v string) (bool, api.Errno) {
	return asked(v, func(v version) bool { return v.stable })
}

// Line returns a version's first number.
func Line(v string) (int, api.Errno) {
	return asked(v, func(v version) int { return v.list[0] })
}

// clause is one of the ways to meet a requirement.
type clause func(v version) bool

func readClause(s string) (clause, bool) {
	if exact, ok := strings.CutPrefix(s, "="); ok {
		w, ok := read(exact)
		return func(v version) bool { return v.compare(w) == 0 }, ok
	}
	first, last, ranged := strings.Cut(s, "-")
	from, ok := read(first)
	if !ok {
		return nil, false
	}
	switch {
	case !ranged:
		return func(v version) bool { return v.compare(from) >= 0 && v.list[0] == from.list[0] }, true
	case last == "":
		return func(v version) bool { return v.compare(from) >= 0 }, true
	}
	to, ok := read(last)
	return func(v version) bool {
		if from.compare(to) == 0 {
			return v.compare(from) == 0
		}
		return v.compare(from) >= 0 && v.compare(to) < 0
	}, ok
}

// readRequirement reads a requirement.
func readRequirement(r string) (clause, bool) {
	if r == "" {
		return func(version) bool { return true }, true
	}
	var l []clause
	for _, s := range strings.Split(r, " ") {
		c, ok := readClause(s)
		if !ok {
			return nil, false
		}
		l = append(l, c)
	}
	return func(v version) bool {
		return slices.ContainsFunc(l, func(c clause) bool { return c(v) })
	}, true
}

// Requirement reports whether a text is a requirement.
func Requirement(r string) bool {
	_, ok := readRequirement(r)
	return ok
}

// Meets reports whether a version meets a requirement.
func Meets(v, r string) (bool, api.Errno) {
	c, ok := readRequirement(r)
	if !ok {
		return false, api.ErrSyntax
	}
	return asked(v, c)
}

func readAll(l []string) ([]version, bool) {
	var r []version
	for _, s := range l {
		v, ok := read(s)
		if !ok {
			return nil, false
		}
		r = append(r, v)
	}
	return r, true
}

// Sorted returns versions in ascending order.
func Sorted(l []string) ([]string, api.Errno) {
	if _, ok := readAll(l); !ok {
		return nil, api.ErrSyntax
	}
	r := slices.Clone(l)
	slices.SortStableFunc(r, func(a, b string) int {
		c, _ := Compare(a, b)
		return c
	})
	return r, api.OK
}

// Best returns the best version that meets a requirement.
func Best(l []string, r string, stable bool) (string, api.Errno) {
	versions, ok1 := readAll(l)
	meets, ok2 := readRequirement(r)
	if !ok1 || !ok2 {
		return "", api.ErrSyntax
	}
	best := -1
	for i, v := range versions {
		if meets(v) && (best < 0 || v.better(versions[best], stable)) {
			best = i
		}
	}
	if best < 0 {
		return "", api.ErrNone
	}
	return l[best], api.OK
}

func validName(s string) bool {
	if len(s) < 1 || len(s) > 40 {
		return false
	}
	for i := range len(s) {
		small, _ := text.Is("lower", s[i:i+1])
		if !small && (i == 0 || !strings.Contains("0123456789_:", s[i:i+1])) {
			return false
		}
	}
	return true
}

// Module returns name and version that a file's path tells.
func Module(path string) (name, version string, e api.Errno) {
	parts := strings.Split(path, "/")
	last, ok := strings.CutSuffix(parts[len(parts)-1], ".tm")
	at := strings.LastIndexByte(last, '-')
	if !ok || at < 1 || slices.Contains(parts, "") {
		return "", "", api.ErrSyntax
	}
	parts[len(parts)-1] = last[:at]
	name, version = strings.Join(parts, "::"), last[at+1:]
	if !validName(name) || !Valid(version) {
		return "", "", api.ErrSyntax
	}
	return name, version, api.OK
}
