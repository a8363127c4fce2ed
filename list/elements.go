package list

import (
	"iter"
	"strings"

	"threadbare/text"
)

// element is an element of a list that is right, or not.
type element struct {
	text  string
	right bool
}

// The kinds of elements.
const (
	braced = iota
	quoted
	bare
	kinds
)

func kindOf(c byte) int {
	switch c {
	case '{':
		return braced
	case '"':
		return quoted
	}
	return bare
}

// A reader reads the element at the beginning of a text, and tells how many bytes it takes; 0 if it does not end.
func readers() [kinds]func(s string) (string, int) {
	return [kinds]func(s string) (string, int){braced: readBraced, quoted: readQuoted, bare: readBare}
}

func readBraced(s string) (string, int) {
	open := 0
	for i := 0; i < len(s); i++ {
		switch s[i] {
		case '\\':
			i++
		case '{':
			open++
		case '}':
			open--
			if open == 0 {
				return s[1:i], i + 1
			}
		}
	}
	return "", 0
}

func readQuoted(s string) (string, int) {
	inner, n := upTo(s[1:], func(c byte) bool { return c == '"' })
	if n+1 == len(s) {
		return "", 0
	}
	return inner, n + 2
}

func readBare(s string) (string, int) { return upTo(s, text.White) }

// upTo reads bytes up to one that ends them, escaped bytes replaced.
func upTo(s string, ends func(byte) bool) (string, int) {
	at := 0
	for at < len(s) && s[at] != '\\' && !ends(s[at]) {
		at++
	}
	if at == len(s) || s[at] != '\\' {
		return s[:at], at
	}
	var b strings.Builder
	b.WriteString(s[:at])
	for at < len(s) && !ends(s[at]) {
		c, n := text.Unescape(s[at:])
		if n == 0 {
			c, n = s[at:at+1], 1
		}
		b.WriteString(c)
		at += n
	}
	return b.String(), at
}

// elements gives the elements of a list with their places, up to one that is wrong.
func elements(s string) iter.Seq2[int, element] {
	return func(yield func(int, element) bool) {
		at, read := 0, readers()
		for {
			for at < len(s) && text.White(s[at]) {
				at++
			}
			if at == len(s) {
				return
			}
			inner, n := read[kindOf(s[at])](s[at:])
			right := n > 0 && (at+n == len(s) || text.White(s[at+n]))
			if !right {
				inner = ""
			}
			if !yield(at, element{inner, right}) || !right {
				return
			}
			at += n
		}
	}
}
