package spell

import (
	"iter"
	"strings"
)

// conversion is a conversion of a specification: to write, or to read.
type conversion struct {
	letter byte
	// To write.
	place                           int // 0 for none
	minus, plus, zero, sharp, blank bool
	width, precision                int // 0, and -1, for none
	widthAsked, precisionAsked      bool
	// To read, with the width.
	silent bool
	set    *[256]bool
}

// piece is a part of a specification: plain bytes, or a conversion that begins at a place; wrong, if that is none.
type piece struct {
	at    int
	plain string
	conv  *conversion
	wrong bool
}

// pieces gives the parts of a specification, up to one that is wrong; read reads what stands behind a '%', and tells how many bytes it takes, 0 for none.
func pieces(spec string, read func(s string) (conversion, int)) iter.Seq[piece] {
	return func(yield func(piece) bool) {
		at := 0
		for at < len(spec) {
			n := strings.IndexByte(spec[at:], '%')
			if n < 0 {
				n = len(spec) - at
			}
			if n > 0 && !yield(piece{at: at, plain: spec[at : at+n]}) {
				return
			}
			at += n
			if at == len(spec) {
				return
			}
			c, n := read(spec[at+1:])
			if n == 0 {
				yield(piece{at: at, wrong: true})
				return
			}
			if !yield(piece{at: at, conv: &c}) {
				return
			}
			at += 1 + n
		}
	}
}

// toWrite gives the parts of a specification to write; conversions with places and others do not go together.
func toWrite(spec string) iter.Seq[piece] {
	first, placed := true, false
	return pieces(spec, func(s string) (conversion, int) {
		c, n := readWriting(s)
		if n == 0 || c.letter == '%' {
			return c, n
		}
		if !first && placed != (c.place > 0) {
			return conversion{}, 0
		}
		first, placed = false, c.place > 0
		return c, n
	})
}

func toRead(spec string) iter.Seq[piece] { return pieces(spec, readReading) }

// span returns how many digits a text begins with, of at most most, and their number.
func span(s string, most int) (count, n int) {
	for count < len(s) && count < most && s[count] >= '0' && s[count] <= '9' {
		n = n*10 + int(s[count]-'0')
		count++
	}
	return count, n
}

// bound reads a width, without a leading zero.
func bound(s string) (count, n int) {
	if s == "" || s[0] == '0' {
		return 0, 0
	}
	return span(s, 3)
}

func readWriting(s string) (conversion, int) {
	if strings.HasPrefix(s, "%") {
		return conversion{letter: '%'}, 1
	}
	c := conversion{precision: -1}
	at := 0
	if count, n := bound(s); count > 0 && count < 3 && strings.HasPrefix(s[count:], "$") {
		c.place, at = n, count+1
	}
	at += c.readFlags(s[at:])
	if strings.HasPrefix(s[at:], "*") {
		c.widthAsked = true
		at++
	} else {
		count, n := bound(s[at:])
		c.width = n
		at += count
	}
	if strings.HasPrefix(s[at:], ".*") {
		c.precisionAsked = true
		at += 2
	} else if strings.HasPrefix(s[at:], ".") {
		count, n := span(s[at+1:], 3)
		if count == 0 {
			return conversion{}, 0
		}
		c.precision = n
		at += 1 + count
	}
	if at == len(s) || strings.IndexByte("dxXobcsq", s[at]) < 0 {
		return conversion{}, 0
	}
	if c.place > 0 && (c.widthAsked || c.precisionAsked) {
		return conversion{}, 0
	}
	c.letter = s[at]
	return c, at + 1
}

func (c *conversion) readFlags(s string) int {
	for i := range len(s) {
		switch s[i] {
		case '-':
			c.minus = true
		case '+':
			c.plus = true
		case '0':
			c.zero = true
		case '#':
			c.sharp = true
		case ' ':
			c.blank = true
		default:
			return i
		}
	}
	return len(s)
}

func readReading(s string) (conversion, int) {
	var c conversion
	at := 0
	if strings.HasPrefix(s, "*") {
		c.silent = true
		at++
	}
	count, n := bound(s[at:])
	c.width = n
	at += count
	if at == len(s) {
		return conversion{}, 0
	}
	c.letter = s[at]
	at++
	switch c.letter {
	case 'd', 'x', 'o', 'b', 's':
		return c, at
	case 'c', 'n':
		if count > 0 {
			return conversion{}, 0
		}
		return c, at
	case '%':
		if at > 1 {
			return conversion{}, 0
		}
		return c, at
	case '[':
		if n := c.readSet(s[at:]); n > 0 {
			return c, at + n
		}
	}
	return conversion{}, 0
}

// readSet reads a set up to its bracket, and returns how many bytes it takes; 0 if there is no bracket.
func (c *conversion) readSet(s string) int {
	from := 0
	if strings.HasPrefix(s, "^") {
		from = 1
	}
	if from >= len(s) {
		return 0
	}
	end := strings.IndexByte(s[from+1:], ']')
	if end < 0 {
		return 0
	}
	inner := s[from : from+1+end]
	c.set = new([256]bool)
	for i := 0; i < len(inner); i++ {
		low, high := inner[i], inner[i]
		if i+2 < len(inner) && inner[i+1] == '-' {
			high = inner[i+2]
			i += 2
		}
		for b := int(min(low, high)); b <= int(max(low, high)); b++ {
			c.set[b] = true
		}
	}
	for b := range c.set {
		c.set[b] = c.set[b] != (from == 1)
	}
	return from + 1 + end + 1
}
