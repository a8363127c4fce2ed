package text

import (
	"iter"
	"strings"
)

// part is a part of a glob pattern: any bytes, or one byte of a set.
type part struct {
	many bool
	set  [256]bool
}

// members gives the bytes of a set, read from the left.
func members(set string) iter.Seq[byte] {
	return func(yield func(byte) bool) {
		for i := 0; i < len(set); i++ {
			low, high := set[i], set[i]
			if i+2 < len(set) && set[i+1] == '-' {
				high = set[i+2]
				i += 2
			}
			if low > high {
				low, high = high, low
			}
			for c := int(low); c <= int(high); c++ {
				if !yield(byte(c)) {
					return
				}
			}
		}
	}
}

// parts reads a pattern; false for one that matches nothing.
func parts(pattern string, fold bool) ([]part, bool) {
	var l []part
	for i := 0; i < len(pattern); i++ {
		var p part
		put := func(c byte) {
			p.set[c] = true
			if fold {
				p.set[small(c)], p.set[great(c)] = true, true
			}
		}
		switch c := pattern[i]; {
		case c == '*':
			p.many = true
		case c == '?':
			for b := range p.set {
				p.set[b] = true
			}
		case c == '[':
			end := strings.IndexByte(pattern[i:], ']')
			if end < 0 {
				return nil, false
			}
			for b := range members(pattern[i+1 : i+end]) {
				put(b)
			}
			i += end
		case c == '\\' && i+1 < len(pattern):
			i++
			put(pattern[i])
		default:
			put(c)
		}
		l = append(l, p)
	}
	return l, true
}

// Glob reports whether a pattern matches a whole text.
func Glob(pattern, s string, fold bool) bool {
	l, ok := parts(pattern, fold)
	if !ok {
		return false
	}
	next := func(i int) int {
		for i < len(l) && !l[i].many {
			i++
		}
		return i
	}
	// A stretch between two stars is best laid as far left as it goes, so each star is asked once.
	var walk func(i, at int) bool
	walk = func(i, at int) bool {
		end := next(i)
		free := i > 0
	tries:
		for from := at; from+end-i <= len(s); from++ {
			if end == len(l) && free {
				from = len(s) - (end - i)
			}
			for k := range end - i {
				if l[i+k].set[s[from+k]] {
					continue
				}
				if !free || end == len(l) {
					return false
				}
				continue tries
			}
			if end == len(l) {
				return from+end-i == len(s)
			}
			return walk(end+1, from+end-i)
		}
		return false
	}
	return walk(0, 0)
}
