// Package text is layer 1: see shared/doc/01-text.md.
package text

import (
	"strings"

	"threadbare/api"
)

// White reports whether a byte is white.
func White(c byte) bool { return c >= 9 && c <= 13 || c == ' ' }

// Compare compares texts bytewise.
func Compare(a, b string) int { return strings.Compare(a, b) }

// Range returns the bytes between two indexes, both included, as far as there are such.
func Range(s string, from, to int) string {
	from, to = max(from, 0), min(to, len(s)-1)
	if from > to {
		return ""
	}
	return s[from : to+1]
}

// First returns the least index, at least from, at which s has the needle.
func First(needle, s string, from int) int {
	from = max(from, 0)
	if needle == "" || from > len(s) {
		return -1
	}
	at := strings.Index(s[from:], needle)
	if at < 0 {
		return -1
	}
	return from + at
}

// Last returns the greatest index, at most to, at which s has the needle.
func Last(needle, s string, to int) int {
	if needle == "" || to < 0 {
		return -1
	}
	if to < len(s)-len(needle) {
		s = s[:to+len(needle)]
	}
	return strings.LastIndex(s, needle)
}

// Count returns how often s has the needle, without overlaps.
func Count(needle, s string) int {
	if needle == "" {
		return 0
	}
	return strings.Count(s, needle)
}

// Repeat returns s n times.
func Repeat(s string, n int) (string, api.Errno) {
	if n < 1 || s == "" {
		return "", api.OK
	}
	if n > api.MaxText/len(s) {
		return "", api.ErrLimit
	}
	return strings.Repeat(s, n), api.OK
}

// Reverse returns the bytes in the opposite order.
func Reverse(s string) string {
	b := []byte(s)
	for i := range len(b) / 2 {
		j := len(b) - 1 - i
		b[i], b[j] = b[j], b[i]
	}
	return string(b)
}

func small(c byte) byte {
	if c >= 'A' && c <= 'Z' {
		return c + 32
	}
	return c
}

func great(c byte) byte {
	if c >= 'a' && c <= 'z' {
		return c - 32
	}
	return c
}

func mapped(s string, form func(byte) byte) string {
	b := []byte(s)
	for i := range b {
		b[i] = form(b[i])
	}
	return string(b)
}

// Lower makes all letters small.
func Lower(s string) string { return mapped(s, small) }

// Upper makes all letters great.
func Upper(s string) string { return mapped(s, great) }

// Title makes the first byte great and the others small.
func Title(s string) string {
	if s == "" {
		return ""
	}
	return Upper(s[:1]) + Lower(s[1:])
}

// Trim takes the bytes of chars away at the ends that are told.
func Trim(s, chars string, left, right bool) string {
	var in [256]bool
	for i := range len(chars) {
		in[chars[i]] = true
	}
	from, to := 0, len(s)
	for left && from < to && in[s[from]] {
		from++
	}
	for right && from < to && in[s[to-1]] {
		to--
	}
	return s[from:to]
}

func alike(a, b string, fold bool) bool {
	if !fold {
		return a == b
	}
	for i := range len(a) {
		if small(a[i]) != small(b[i]) {
			return false
		}
	}
	return true
}

// keysByByte lays the pairs' keys out by their first byte, so that long lists of pairs stay cheap.
func keysByByte(pairs []string, fold bool) [256][]int {
	var by [256][]int
	for i := 0; i < len(pairs); i += 2 {
		if pairs[i] == "" {
			continue
		}
		c := pairs[i][0]
		by[c] = append(by[c], i)
		if o := small(c) ^ great(c) ^ c; fold && o != c {
			by[o] = append(by[o], i)
		}
	}
	return by
}

// Map replaces keys by their values, from the left.
func Map(s string, pairs []string, fold bool) (string, api.Errno) {
	if len(pairs)%2 != 0 {
		return "", api.ErrInvalid
	}
	by := keysByByte(pairs, fold)
	var b strings.Builder
	at := 0
walk:
	for at < len(s) && b.Len() <= api.MaxText {
		for _, i := range by[s[at]] {
			key := pairs[i]
			if len(s)-at >= len(key) && alike(s[at:at+len(key)], key, fold) {
				b.WriteString(pairs[i+1])
				at += len(key)
				continue walk
			}
		}
		b.WriteByte(s[at])
		at++
	}
	if b.Len() > api.MaxText {
		return "", api.ErrLimit
	}
	return b.String(), api.OK
}

// Replace returns s with the bytes between two indexes replaced by another text.
func Replace(s string, from, to int, with string) (string, api.Errno) {
	from, to = max(from, 0), min(to, len(s)-1)
	if from > to {
		from, to, with = 0, -1, ""
	}
	if len(s)-(to+1-from)+len(with) > api.MaxText {
		return "", api.ErrLimit
	}
	return s[:from] + with + s[to+1:], api.OK
}

// class says which bytes belong to a class.
type class struct {
	has func(c byte) bool
}

func between(c, from, to byte) bool { return from <= c && c <= to }

func classes() map[string]class {
	digit := func(c byte) bool { return between(c, '0', '9') }
	letter := func(c byte) bool { return between(small(c), 'a', 'z') }
	return map[string]class{
		"alnum":  {func(c byte) bool { return digit(c) || letter(c) }},
		"alpha":  {letter},
		"digit":  {digit},
		"lower":  {func(c byte) bool { return between(c, 'a', 'z') }},
		"upper":  {func(c byte) bool { return between(c, 'A', 'Z') }},
		"space":  {White},
		"print":  {func(c byte) bool { return between(c, 32, 126) }},
		"xdigit": {func(c byte) bool { return digit(c) || between(small(c), 'a', 'f') }},
	}
}

// Is reports whether all bytes of a text are of a class.
func Is(class, s string) (bool, api.Errno) {
	kind, ok := classes()[class]
	if !ok {
		return false, api.ErrName
	}
	for i := range len(s) {
		if !kind.has(s[i]) {
			return false, api.OK
		}
	}
	return true, api.OK
}

// digits returns how many digits begin a text, and their number, of at most nine.
func digits(s string) (count, n int) {
	for count < len(s) && count < 9 && between(s[count], '0', '9') {
		n = n*10 + int(s[count]-'0')
		count++
	}
	return count, n
}

// Place returns the index that a place is for a length n.
func Place(word string, n int) (int, api.Errno) {
	if n < 0 {
		return 0, api.ErrRange
	}
	at, rest := 0, word
	if strings.HasPrefix(word, "end") {
		at, rest = n-1, word[3:]
	} else {
		minus := strings.HasPrefix(word, "-")
		if minus {
			rest = word[1:]
		}
		count, value := digits(rest)
		if count == 0 {
			return 0, api.ErrSyntax
		}
		at, rest = value, rest[count:]
		if minus {
			at = -value
		}
	}
	if rest == "" {
		return at, api.OK
	}
	count, more := digits(rest[1:])
	if count == 0 || count != len(rest)-1 || rest[0] != '+' && rest[0] != '-' {
		return 0, api.ErrSyntax
	}
	if rest[0] == '-' {
		more = -more
	}
	return at + more, api.OK
}

// Detail returns the first MaxDetail bytes of a text.
func Detail(s string) string { return s[:min(len(s), api.MaxDetail)] }
