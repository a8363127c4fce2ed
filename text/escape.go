package text

import "strings"

func hexValue(c byte) int {
	switch {
	case between(c, '0', '9'):
		return int(c - '0')
	case between(small(c), 'a', 'f'):
		return int(small(c)-'a') + 10
	}
	return -1
}

// number reads at most most digits of a base, and returns how many there were.
func number(s string, base, most int) (count, n int) {
	for count < len(s) && count < most {
		v := hexValue(s[count])
		if v < 0 || v >= base {
			break
		}
		n = n*base + v
		count++
	}
	return count, n
}

// Unescape returns what the escaped bytes at the beginning of s are, and how many bytes they take.
func Unescape(s string) (c string, n int) {
	if s == "" || s[0] != '\\' {
		return "", 0
	}
	if len(s) == 1 {
		return s, 1
	}
	if at := strings.IndexByte("abfnrtv", s[1]); at >= 0 {
		return "\a\b\f\n\r\t\v"[at : at+1], 2
	}
	if s[1] == '\n' {
		n = 2
		for n < len(s) && (s[n] == ' ' || s[n] == '\t') {
			n++
		}
		return " ", n
	}
	if s[1] == 'x' {
		if count, v := number(s[2:], 16, 2); count > 0 {
			return string([]byte{byte(v)}), 2 + count
		}
	}
	if count, v := number(s[1:], 8, 3); count > 0 {
		return string([]byte{byte(v)}), 1 + count
	}
	return s[1:2], 2
}

// Unescaped returns a text with all escaped bytes replaced.
func Unescaped(s string) string {
	var b strings.Builder
	for {
		at := strings.IndexByte(s, '\\')
		if at < 0 {
			break
		}
		c, n := Unescape(s[at:])
		b.WriteString(s[:at])
		b.WriteString(c)
		s = s[at+n:]
	}
	b.WriteString(s)
	return b.String()
}
