package text

import "strings"

// balanced reports whether a text may stand between braces just as it is.
func balanced(s string) bool {
	open := 0
	for i := 0; i < len(s); i++ {
		switch s[i] {
		case '\\':
			if i+1 == len(s) || s[i+1] == '\n' {
				return false
			}
			i++
		case '{':
			open++
		case '}':
			if open == 0 {
				return false
			}
			open--
		}
	}
	return open == 0 && !strings.Contains(s, "\\\n")
}

func special(c byte) bool {
	switch c {
	case '\t', '\n', '\v', '\f', '\r', ' ', '"', '\\', '{', '}', '$', '[', ']', ';':
		return true
	}
	return false
}

func plain(s string) bool {
	for i := range len(s) {
		if special(s[i]) {
			return false
		}
	}
	return s[0] != '#'
}

// Slashed quotes a text with a backslash before each special byte.
func Slashed(s string) string {
	var b strings.Builder
	for i := range len(s) {
		c := s[i]
		if special(c) || i == 0 && c == '#' {
			b.WriteByte('\\')
		}
		if c >= 9 && c <= 13 {
			c = "tnvfr"[c-9]
		}
		b.WriteByte(c)
	}
	return b.String()
}

// Quote quotes a text canonically, as an element of a list (layer 2). It stands here because layer 6 quotes, too, and has no lists.
func Quote(s string) string {
	switch {
	case s == "":
		return "{}"
	case plain(s):
		return s
	case balanced(s):
		return "{" + s + "}"
	}
	return Slashed(s)
}
