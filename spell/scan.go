package spell

import (
	"strconv"

	"threadbare/api"
	"threadbare/big"
	"threadbare/text"
)

// scanner reads a text by a specification.
type scanner struct {
	s    string
	at   int
	told []string
	done int
}

func (r *scanner) white() {
	for r.at < len(r.s) && text.White(r.s[r.at]) {
		r.at++
	}
}

// plain reads bytes that stand for themselves, or for white ones.
func (r *scanner) plain(s string) bool {
	for i := range len(s) {
		if text.White(s[i]) {
			r.white()
			continue
		}
		if r.at == len(r.s) || r.s[r.at] != s[i] {
			return false
		}
		r.at++
	}
	return true
}

// run returns where bytes that are wanted end, at most width of them (any number for 0).
func (r *scanner) run(from, width int, wanted func(c byte) bool) int {
	end := len(r.s)
	if width > 0 {
		end = min(end, r.at+width)
	}
	for from < end && wanted(r.s[from]) {
		from++
	}
	return from
}

func digit(base int) func(c byte) bool {
	return func(c byte) bool {
		_, e := big.Read(string([]byte{c}), base)
		return e == api.OK
	}
}

// number reads a number of a base.
func (r *scanner) number(c conversion, base int) (string, bool) {
	r.white()
	from := r.run(r.at, 1, func(c byte) bool { return c == '-' || c == '+' })
	end := r.run(from, c.width, digit(base))
	if end <= from {
		return "", false
	}
	digits := r.s[from:end]
	if r.s[r.at] == '-' {
		digits = "-" + digits
	}
	n, e := big.Read(digits, base)
	if e != api.OK {
		fail(e)
	}
	r.at = end
	return n, true
}

// bytes reads one or more bytes that are wanted.
func (r *scanner) bytes(c conversion, wanted func(c byte) bool) (string, bool) {
	end := r.run(r.at, c.width, wanted)
	s := r.s[r.at:end]
	r.at = end
	return s, s != ""
}

// source says how a letter reads.
type source struct {
	read func(r *scanner, c conversion) (string, bool)
}

func sources() map[byte]source {
	based := func(base int) source {
		return source{func(r *scanner, c conversion) (string, bool) { return r.number(c, base) }}
	}
	return map[byte]source{
		'd': based(10),
		'x': based(16),
		'o': based(8),
		'b': based(2),
		's': {func(r *scanner, c conversion) (string, bool) {
			r.white()
			return r.bytes(c, func(b byte) bool { return !text.White(b) })
		}},
		'c': {func(r *scanner, c conversion) (string, bool) {
			if r.at == len(r.s) {
				return "", false
			}
			r.at++
			return strconv.Itoa(int(r.s[r.at-1])), true
		}},
		'[': {func(r *scanner, c conversion) (string, bool) {
			return r.bytes(c, func(b byte) bool { return c.set[b] })
		}},
		'n': {func(r *scanner, c conversion) (string, bool) { return strconv.Itoa(r.at), true }},
	}
}

// convert does a conversion; false if it does not fit.
func (r *scanner) convert(c conversion, from source) bool {
	if c.letter == '%' {
		r.white()
		return r.plain("%")
	}
	s, ok := from.read(r, c)
	if !ok {
		return false
	}
	r.done++
	if !c.silent {
		r.told = append(r.told, s)
	}
	return true
}

// Scan reads a text by a specification.
func Scan(s, spec string) (l []string, done int, e api.Errno) {
	if _, e := Check(spec, true); e != api.OK {
		return nil, 0, e
	}
	r := &scanner{s: s}
	kinds := sources()
	e = trying(func() {
		for p := range toRead(spec) {
			fits := false
			if p.conv == nil {
				fits = r.plain(p.plain)
			} else {
				fits = r.convert(*p.conv, kinds[p.conv.letter])
			}
			if !fits {
				return
			}
		}
	})
	if e != api.OK {
		return nil, 0, e
	}
	return r.told, r.done, api.OK
}

// Reads returns how many conversions of a specification tell something.
func Reads(spec string) (int, api.Errno) {
	n := 0
	for p := range toRead(spec) {
		if p.wrong {
			return 0, api.ErrSyntax
		}
		if p.conv != nil && p.conv.letter != '%' && !p.conv.silent {
			n++
		}
	}
	return n, api.OK
}
