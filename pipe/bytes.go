package pipe

import (
	"iter"

	"threadbare/api"
)

func isIn(s string) bool { return isOut(s) || s == "auto" }

func isOut(s string) bool { return s == "lf" || s == "cr" || s == "crlf" }

func isBuffering(s string) bool { return s == "none" || s == "line" || s == "full" }

// translated gives the bytes that raw ones become, each with the number of raw bytes that are taken then. A 13 at the end that waits is not given.
func translated(raw []byte, mode string, closed bool) iter.Seq2[int, byte] {
	pairs := mode == "crlf" || mode == "auto"
	return func(yield func(int, byte) bool) {
		for at := 0; at < len(raw); {
			c := raw[at]
			at++
			if c == '\r' {
				if pairs && at == len(raw) && !closed {
					return
				}
				if pairs && at < len(raw) && raw[at] == '\n' {
					c = '\n'
					at++
				} else if mode == "cr" || mode == "auto" {
					c = '\n'
				}
			}
			if !yield(at, c) {
				return
			}
		}
	}
}

// outward returns what a text becomes, and where its last line end ends.
func outward(s, mode string) (bytes []byte, lineEnd int) {
	for i := range len(s) {
		switch {
		case s[i] != '\n' || mode == "lf":
			bytes = append(bytes, s[i])
		case mode == "cr":
			bytes = append(bytes, '\r')
		default:
			bytes = append(bytes, '\r', '\n')
		}
		if s[i] == '\n' {
			lineEnd = len(bytes)
		}
	}
	return bytes, lineEnd
}

// In returns what raw bytes become by a translation, and the rest that waits.
func In(raw, mode string, closed bool) (s, rest string, e api.Errno) {
	if !isIn(mode) {
		return "", "", api.ErrName
	}
	var told []byte
	taken := 0
	for end, c := range translated([]byte(raw), mode, closed) {
		told = append(told, c)
		taken = end
	}
	return string(told), raw[taken:], api.OK
}

// Outward returns what a text becomes by a translation.
func Outward(s, mode string) (string, api.Errno) {
	if !isOut(mode) {
		return "", api.ErrName
	}
	bytes, _ := outward(s, mode)
	return string(bytes), api.OK
}

// filter is a kind of filter: what becomes of a byte that comes in, and of bytes that go out. grows is how many bytes one becomes outside.
type filter struct {
	name  string
	in    func(l *laid, c byte) (b byte, there, ok bool)
	out   func(c byte) []byte
	grows int
}

// laid is a filter that lies on a pipe, with the digit that waits in it.
type laid struct {
	kind    int
	digit   byte
	waiting bool
}

func filters() [2]filter {
	return [2]filter{
		{"rot", func(_ *laid, c byte) (byte, bool, bool) { return turned(c), true, true }, func(c byte) []byte { return []byte{turned(c)} }, 1},
		{"hex", paired, func(c byte) []byte { return []byte{"0123456789abcdef"[c>>4], "0123456789abcdef"[c&15]} }, 2},
	}
}

func turned(c byte) byte {
	switch {
	case c >= 'a' && c <= 'z':
		return 'a' + (c-'a'+13)%26
	case c >= 'A' && c <= 'Z':
		return 'A' + (c-'A'+13)%26
	}
	return c
}

func paired(l *laid, c byte) (byte, bool, bool) {
	switch {
	case c >= '0' && c <= '9':
		c -= '0'
	case c >= 'a' && c <= 'f':
		c -= 'a' - 10
	case c >= 'A' && c <= 'F':
		c -= 'A' - 10
	default:
		return 0, false, false
	}
	if !l.waiting {
		l.digit, l.waiting = c, true
		return 0, false, true
	}
	l.waiting = false
	return l.digit<<4 | c, true, true
}

// inward passes a byte through the filters: whether it comes in, and whether no filter breaks.
func (p *Pipe) inward(c byte) (b byte, there, ok bool) {
	kinds := filters()
	for i := range p.filters {
		l := &p.filters[i]
		c, there, ok = kinds[l.kind].in(l, c)
		if !there || !ok {
			return 0, false, ok
		}
	}
	return c, true, true
}

// filtered passes bytes that leave the buffer through the filters.
func (p *Pipe) filtered(bytes []byte) []byte {
	kinds := filters()
	for i := len(p.filters) - 1; i >= 0; i-- {
		var next []byte
		for _, c := range bytes {
			next = append(next, kinds[p.filters[i].kind].out(c)...)
		}
		bytes = next
	}
	return bytes
}

// growth is how many bytes one becomes outside.
func (p *Pipe) growth() int {
	kinds := filters()
	n := 1
	for _, l := range p.filters {
		n *= kinds[l.kind].grows
	}
	return n
}

// Lay lays a filter over those that are there.
func (p *Pipe) Lay(name string) api.Errno {
	if p == nil {
		return api.ErrState
	}
	for i, f := range filters() {
		if f.name != name {
			continue
		}
		n := len(p.filters)
		if n == maxFilters {
			return api.ErrLimit
		}
		p.filters = append(p.filters[:n:n], laid{kind: i})
		return api.OK
	}
	return api.ErrName
}

// Lift takes off the filter that was laid last.
func (p *Pipe) Lift() api.Errno {
	switch {
	case p == nil:
		return api.ErrState
	case len(p.filters) == 0:
		return api.ErrNone
	}
	p.filters = p.filters[:len(p.filters)-1]
	return api.OK
}
