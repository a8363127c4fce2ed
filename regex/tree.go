package regex

import (
	"threadbare/text"
)

// node is a part of a pattern.
type node interface {
	// size is what the part adds to the size of its pattern.
	size() int
	// least is the least number of bytes that the part takes.
	least() int
}

// set is an atom of one byte; negated, if it is what is not of the bytes.
type set struct {
	bytes   *[256]bool
	negated bool
}

// place is an atom that takes nothing: '^', '$' or 'y'.
type place struct{ kind byte }

type look struct {
	not bool
	in  node
}

// group has a number, or 0.
type group struct {
	number int
	in     node
}

type back struct{ number int }

type branches struct{ list []node }

type pieces struct{ list []node }

// repeat is a repetition; most is -1 if there is no greatest number of times.
type repeat struct {
	in         node
	from, most int
	lazy       bool
}

// great is a bound beyond which sizes need not be told apart.
const great = 1 << 30

func bounded(n int) int { return min(n, great) }

func (set) size() int     { return 1 }
func (place) size() int   { return 1 }
func (back) size() int    { return 1 }
func (n look) size() int  { return bounded(1 + n.in.size()) }
func (n group) size() int { return bounded(1 + n.in.size()) }

func (n branches) size() int { return bounded(sum(n.list, node.size) + len(n.list)) }

func (n pieces) size() int { return sum(n.list, node.size) }

func (n repeat) size() int {
	times := n.most
	if times < 0 {
		times = n.from + 1
	}
	return max(bounded(n.in.size()*times), 1)
}

func (set) least() int      { return 1 }
func (place) least() int    { return 0 }
func (back) least() int     { return 0 }
func (look) least() int     { return 0 }
func (n group) least() int  { return n.in.least() }
func (n pieces) least() int { return sum(n.list, node.least) }
func (n repeat) least() int { return bounded(n.in.least() * n.from) }

func (n branches) least() int {
	r := great
	for _, b := range n.list {
		r = min(r, b.least())
	}
	return r
}

func sum(l []node, of func(node) int) int {
	n := 0
	for _, x := range l {
		n = bounded(n + of(x))
	}
	return n
}

func alnum(c byte) bool {
	return c >= '0' && c <= '9' || c >= 'A' && c <= 'Z' || c >= 'a' && c <= 'z'
}

func wordByte(c byte) bool { return alnum(c) || c == '_' }

// classBytes returns the bytes of \d, \s or \w.
func classBytes(c byte) *[256]bool {
	var r [256]bool
	for i := range r {
		b := byte(i)
		switch c {
		case 'd':
			r[i] = b >= '0' && b <= '9'
		case 's':
			r[i] = text.White(b)
		case 'w':
			r[i] = wordByte(b)
		}
	}
	return &r
}

func single(c byte) set {
	var r [256]bool
	r[c] = true
	return set{bytes: &r}
}
