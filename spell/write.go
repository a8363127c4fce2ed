package spell

import (
	"strings"

	"threadbare/api"
	"threadbare/big"
	"threadbare/list"
	"threadbare/text"
)

// wrong is an error that ends all writing or reading.
type wrong struct{ e api.Errno }

func fail(e api.Errno) { panic(wrong{e}) }

// trying does something, and returns the error that ended it.
func trying(do func()) (e api.Errno) {
	defer func() {
		switch x := recover().(type) {
		case nil:
		case wrong:
			e = x.e
		default:
			panic(x)
		}
	}()
	do()
	return api.OK
}

// letter says how a letter writes its argument.
type letter struct {
	write func(c conversion, arg string) string
}

func letters() map[byte]letter {
	based := func(base int, prefix string) letter {
		return letter{func(c conversion, arg string) string { return c.number(arg, base, prefix) }}
	}
	return map[byte]letter{
		'd': based(10, ""),
		'x': based(16, "0x"),
		'X': {func(c conversion, arg string) string { return text.Upper(c.number(arg, 16, "0x")) }},
		'o': based(8, "0o"),
		'b': based(2, "0b"),
		'c': {func(c conversion, arg string) string {
			return c.filled(string([]byte{byte(small(arg, 0, 255))}))
		}},
		's': {func(c conversion, arg string) string { return c.filled(c.cut(arg)) }},
		'q': {func(c conversion, arg string) string { return c.filled(c.cut(list.Quote(arg))) }},
	}
}

// small returns an argument as a number between two others.
func small(arg string, from, to int) int {
	n, e := big.Int(arg)
	if e == api.ErrSyntax {
		fail(api.ErrKind)
	}
	if e != api.OK || n < from || n > to {
		fail(api.ErrRange)
	}
	return n
}

func (c conversion) cut(s string) string {
	if c.precision >= 0 {
		return s[:min(len(s), c.precision)]
	}
	return s
}

func (c conversion) filled(s string) string {
	return filled(s, c.width, !c.minus, ' ')
}

func filled(s string, width int, left bool, with byte) string {
	more := strings.Repeat(string([]byte{with}), max(width-len(s), 0))
	if left {
		return more + s
	}
	return s + more
}

func (c conversion) number(arg string, base int, prefix string) string {
	n, e := big.Canonical(arg)
	if e == api.ErrSyntax {
		fail(api.ErrKind)
	}
	if e != api.OK {
		fail(e)
	}
	digits, _ := big.Base(n, base)
	sign := ""
	switch {
	case digits[0] == '-':
		sign, digits = "-", digits[1:]
	case c.plus:
		sign = "+"
	case c.blank:
		sign = " "
	}
	if c.sharp && base != 10 {
		sign += prefix
	}
	digits = filled(digits, c.precision, true, '0')
	if c.zero && !c.minus && c.precision < 0 {
		digits = filled(digits, c.width-len(sign), true, '0')
	}
	return c.filled(sign + digits)
}

// taker returns what takes the arguments one after the other, or those of places.
func taker(args []string) func(place int) string {
	next := 0
	return func(place int) string {
		if place == 0 {
			next++
			place = next
		}
		if place > len(args) {
			fail(api.ErrNone)
		}
		return args[place-1]
	}
}

// settled returns the conversion with the width and the precision that it asks for.
func (c conversion) settled(take func(place int) string) conversion {
	if c.widthAsked {
		c.width = small(take(0), -999, 999)
		if c.width < 0 {
			c.minus, c.width = true, -c.width
		}
	}
	if c.precisionAsked {
		c.precision = max(small(take(0), -999, 999), -1)
	}
	return c
}

// Format writes arguments by a specification.
func Format(spec string, args []string) (s string, at int, e api.Errno) {
	var b strings.Builder
	forms, take := letters(), taker(args)
	put := func(s string) {
		if b.Len()+len(s) > api.MaxText {
			fail(api.ErrLimit)
		}
		b.WriteString(s)
	}
	e = trying(func() {
		for p := range toWrite(spec) {
			at = p.at
			switch {
			case p.wrong:
				fail(api.ErrSyntax)
			case p.conv == nil:
				at = 0
				put(p.plain)
			case p.conv.letter == '%':
				put("%")
			default:
				c := p.conv.settled(take)
				put(forms[c.letter].write(c, take(c.place)))
			}
		}
	})
	if e != api.OK {
		return "", at, e
	}
	return b.String(), 0, api.OK
}

// Needs returns how many arguments a specification takes.
func Needs(spec string) (int, api.Errno) {
	n, greatest := 0, 0
	for p := range toWrite(spec) {
		switch {
		case p.wrong:
			return 0, api.ErrSyntax
		case p.conv == nil || p.conv.letter == '%':
		case p.conv.place > 0:
			greatest = max(greatest, p.conv.place)
		default:
			n++
			if p.conv.widthAsked {
				n++
			}
			if p.conv.precisionAsked {
				n++
			}
		}
	}
	return n + greatest, api.OK
}

// Check tells the first conversion that is none.
func Check(spec string, scan bool) (at int, e api.Errno) {
	parts := toWrite(spec)
	if scan {
		parts = toRead(spec)
	}
	for p := range parts {
		if p.wrong {
			return p.at, api.ErrSyntax
		}
	}
	return 0, api.OK
}

// Pad returns a text filled to a width.
func Pad(s string, width int, left bool, with byte) (string, api.Errno) {
	if width < 0 || width > 999 {
		return "", api.ErrRange
	}
	return filled(s, width, left, with), api.OK
}

// Number returns a number written with a base.
func Number(n string, base, digits int, plus, prefix bool) (string, api.Errno) {
	marks := map[int]string{2: "0b", 8: "0o", 10: "", 16: "0x"}
	mark, ok := marks[base]
	if !ok || digits < 0 || digits > 999 {
		return "", api.ErrRange
	}
	c := conversion{precision: digits, plus: plus, sharp: prefix}
	s := ""
	e := trying(func() { s = c.number(n, base, mark) })
	if e == api.ErrKind {
		e = api.ErrSyntax
	}
	return s, e
}
