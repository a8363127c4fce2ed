package big

import "threadbare/api"

// number is a number with its sign. Of one that is too long only the sign, and whether it is odd, are known.
type number struct {
	minus bool
	size  magnitude
	long  bool
	odd   bool
}

func white(c byte) bool { return c >= 9 && c <= 13 || c == ' ' }

func digitOf(c byte) int {
	switch {
	case c >= '0' && c <= '9':
		return int(c - '0')
	case c >= 'a' && c <= 'z':
		return int(c-'a') + 10
	case c >= 'A' && c <= 'Z':
		return int(c-'A') + 10
	}
	return 99
}

// tooLong reports whether a number has more than MaxDigits decimal digits; 10 to the power of MaxDigits has 1,994 bits.
func tooLong(m magnitude) bool {
	if m.bits() != 1994 {
		return m.bits() > 1994
	}
	return len(m.text(10)) > api.MaxDigits
}

// digits reads one or more digits of a base.
func digits(s string, base int) (number, api.Errno) {
	var n number
	if s == "" {
		return n, api.ErrSyntax
	}
	// Digits are gathered while they fit into 32 bits, and put behind the number together.
	part, scale := uint64(0), uint64(1)
	for i := range len(s) {
		d := digitOf(s[i])
		if d >= base {
			return number{}, api.ErrSyntax
		}
		n.odd = (n.odd && base%2 == 1) != (d%2 == 1)
		part, scale = part*uint64(base)+uint64(d), scale*uint64(base)
		if scale*uint64(base) >= 1<<32 || i == len(s)-1 {
			if !n.long {
				n.size = n.size.scaled(uint32(scale), uint32(part))
			}
			n.long = n.long || n.size.bits() > 1994
			part, scale = 0, 1
		}
	}
	n.long = n.long || tooLong(n.size)
	return n, api.OK
}

func parse(s string) (number, api.Errno) {
	for s != "" && white(s[0]) {
		s = s[1:]
	}
	for s != "" && white(s[len(s)-1]) {
		s = s[:len(s)-1]
	}
	minus, base := false, 10
	if s != "" && (s[0] == '-' || s[0] == '+') {
		minus, s = s[0] == '-', s[1:]
	}
	if len(s) >= 2 && s[0] == '0' {
		switch s[1] {
		case 'x':
			base = 16
		case 'o':
			base = 8
		case 'b':
			base = 2
		}
	}
	if base != 10 {
		s = s[2:]
	}
	n, e := digits(s, base)
	return n.signed(minus), e
}

func (n number) signed(minus bool) number {
	n.minus = minus && (n.long || len(n.size) > 0)
	return n
}

func (n number) negated() number { return n.signed(!n.minus) }

func (n number) absolute() number { return n.signed(false) }

// inverted is what Not tells: -n - 1.
func (n number) inverted() number {
	return n.negated().plus(number{minus: true, size: magnitude{1}})
}

func (n number) sign() int {
	switch {
	case n.minus:
		return -1
	case n.long || len(n.size) > 0:
		return 1
	}
	return 0
}

func (n number) compare(o number) int {
	switch {
	case n.minus != o.minus:
		if n.minus {
			return -1
		}
		return 1
	case n.minus:
		return o.size.compare(n.size)
	}
	return n.size.compare(o.size)
}

func (n number) plus(o number) number {
	if n.minus == o.minus {
		return number{size: n.size.plus(o.size)}.signed(n.minus)
	}
	if n.size.compare(o.size) < 0 {
		return number{size: o.size.minus(n.size)}.signed(o.minus)
	}
	return number{size: n.size.minus(o.size)}.signed(n.minus)
}

func (n number) less(o number) number { return n.plus(o.negated()) }

func (n number) times(o number) number {
	return number{size: n.size.times(o.size)}.signed(n.minus != o.minus)
}

// over divides, rounding down; the divisor is not 0.
func (n number) over(o number) (q, r number) {
	quotient, rest := n.size.over(o.size)
	q = number{size: quotient}.signed(n.minus != o.minus)
	r = number{size: rest}.signed(n.minus)
	if r.sign() != 0 && r.minus != o.minus {
		q, r = q.plus(number{minus: true, size: magnitude{1}}), r.plus(o)
	}
	return q, r
}

func (n number) divisor(o number) number {
	a, b := n.size, o.size
	for len(b) > 0 {
		_, r := a.over(b)
		a, b = b, r
	}
	return number{size: a}
}

// bitsOf returns the digits of the two's complement, with one digit that repeats its sign.
func (n number) bitsOf(length int) []uint32 {
	size, fill := n.size, uint32(0)
	if n.minus {
		size, fill = n.size.minus(magnitude{1}), ^uint32(0)
	}
	r := make([]uint32, length)
	for i := range r {
		if i < len(size) {
			r[i] = size[i]
		}
		r[i] ^= fill
	}
	return r
}

// merged puts the bits of two numbers of one length together.
func merged[T uint32 | uint64](a, b []T, each func(x, y T) T) []T {
	var r []T
	for i, x := range a {
		r = append(r, each(x, b[i]))
	}
	return r
}

// withBits does something with the bits of two numbers.
func withBits(each func(x, y uint32) uint32) func(n, o number) number {
	return func(n, o number) number {
		length := max(len(n.size), len(o.size)) + 1
		l := merged(n.bitsOf(length), o.bitsOf(length), each)
		if l[length-1]>>31 == 0 {
			return number{size: trimmed(l)}
		}
		for i := range l {
			l[i] = ^l[i]
		}
		return number{minus: true, size: magnitude(trimmed(l)).plus(magnitude{1})}
	}
}

func (n number) shifted(by int) number {
	if by >= 0 {
		return number{size: n.size.up(by)}.signed(n.minus)
	}
	size, lost := n.size.down(-by)
	if n.minus && lost {
		size = size.plus(magnitude{1})
	}
	return number{size: size}.signed(n.minus)
}

// written is a result's canonical form.
func (n number) written() (string, api.Errno) {
	if n.long || n.size.bits() > 1994 {
		return "", api.ErrLimit
	}
	s := n.size.text(10)
	if len(s) > api.MaxDigits {
		return "", api.ErrLimit
	}
	if n.minus {
		s = "-" + s
	}
	return s, api.OK
}
