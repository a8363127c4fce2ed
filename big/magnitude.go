package big

import (
	"iter"
	"math/bits"
)

// magnitude is a number of 0 or more: its digits with base 2^32, the lowest first, without zeros at the end.
type magnitude []uint32

func trimmed(m magnitude) magnitude {
	for len(m) > 0 && m[len(m)-1] == 0 {
		m = m[:len(m)-1]
	}
	return m
}

// pairs gives the digits of two numbers side by side, the lowest first.
func pairs(a, b magnitude) iter.Seq2[uint32, uint32] {
	return func(yield func(uint32, uint32) bool) {
		for i := range max(len(a), len(b)) {
			var x, y uint32
			if i < len(a) {
				x = a[i]
			}
			if i < len(b) {
				y = b[i]
			}
			if !yield(x, y) {
				return
			}
		}
	}
}

func (a magnitude) compare(b magnitude) int {
	r := 0
	for x, y := range pairs(a, b) {
		if x < y {
			r = -1
		} else if x > y {
			r = 1
		}
	}
	return r
}

func (a magnitude) plus(b magnitude) magnitude {
	var r magnitude
	carry := uint32(0)
	for x, y := range pairs(a, b) {
		var sum uint32
		sum, carry = bits.Add32(x, y, carry)
		r = append(r, sum)
	}
	return trimmed(append(r, carry))
}

// minus takes away a number that is not greater.
func (a magnitude) minus(b magnitude) magnitude {
	var r magnitude
	borrow := uint32(0)
	for x, y := range pairs(a, b) {
		var rest uint32
		rest, borrow = bits.Sub32(x, y, borrow)
		r = append(r, rest)
	}
	return trimmed(r)
}

func (a magnitude) times(b magnitude) magnitude {
	r := make(magnitude, len(a)+len(b))
	for i, x := range a {
		carry := uint64(0)
		for j, y := range b {
			v := uint64(x)*uint64(y) + uint64(r[i+j]) + carry
			r[i+j] = uint32(v)
			carry = v >> 32
		}
		r[i+len(b)] = uint32(carry)
	}
	return trimmed(r)
}

// scaled multiplies by a small number and adds another one.
func (a magnitude) scaled(by, plus uint32) magnitude {
	r := make(magnitude, 0, len(a)+1)
	carry := uint64(plus)
	for _, x := range a {
		v := uint64(x)*uint64(by) + carry
		r = append(r, uint32(v))
		carry = v >> 32
	}
	return trimmed(append(r, uint32(carry)))
}

// parted divides by a small number.
func (a magnitude) parted(by uint32) (magnitude, uint32) {
	r := make(magnitude, len(a))
	rest := uint64(0)
	for i := len(a) - 1; i >= 0; i-- {
		v := rest<<32 | uint64(a[i])
		r[i] = uint32(v / uint64(by))
		rest = v % uint64(by)
	}
	return trimmed(r), uint32(rest)
}

func (a magnitude) bits() int {
	if len(a) == 0 {
		return 0
	}
	return (len(a)-1)*32 + bits.Len32(a[len(a)-1])
}

func (a magnitude) up(n int) magnitude {
	if len(a) == 0 {
		return nil
	}
	r := make(magnitude, n/32, n/32+len(a)+1)
	carry := uint32(0)
	for _, x := range a {
		r = append(r, x<<(n%32)|carry)
		carry = uint32(uint64(x) << (n % 32) >> 32)
	}
	return trimmed(append(r, carry))
}

// down shifts down, and tells whether a bit was lost.
func (a magnitude) down(n int) (magnitude, bool) {
	lost := false
	var r magnitude
	for i, x := range a {
		if i < n/32 {
			lost = lost || x != 0
			continue
		}
		if i == n/32 && x<<(31-n%32)<<1 != 0 {
			lost = true
		}
		next := uint64(0)
		if i+1 < len(a) {
			next = uint64(a[i+1]) << 32
		}
		r = append(r, uint32((next|uint64(x))>>(n%32)))
	}
	return trimmed(r), lost
}

// over divides by a number that is not 0.
func (a magnitude) over(b magnitude) (q, r magnitude) {
	if a.compare(b) < 0 {
		return nil, a
	}
	if len(b) == 1 {
		q, rest := a.parted(b[0])
		return q, trimmed(magnitude{rest})
	}
	shift := bits.LeadingZeros32(b[len(b)-1])
	u, v := append(a.up(shift), 0, 0), b.up(shift)
	n := len(v)
	q = make(magnitude, len(u)-n)
	for j := len(u) - n - 1; j >= 0; j-- {
		q[j] = quotientDigit(u[j:], v)
	}
	r, _ = trimmed(u).down(shift)
	return trimmed(q), r
}

// quotientDigit takes v away from the first digits of u as often as it goes, by a guess from the highest digits that is at most a little too great.
func quotientDigit(u, v magnitude) uint32 {
	n := len(v)
	top := uint64(u[n])<<32 | uint64(u[n-1])
	guess := min(top/uint64(v[n-1]), 1<<32-1)
	for guess > 0 {
		rest := top - guess*uint64(v[n-1])
		if rest >= 1<<32 || guess*uint64(v[n-2]) <= rest<<32|uint64(u[n-2]) {
			break
		}
		guess--
	}
	part := v.scaled(uint32(guess), 0)
	if magnitude(u[:n+1]).compare(part) < 0 {
		guess--
		part = v.scaled(uint32(guess), 0)
	}
	i, borrow := 0, uint32(0)
	for x, y := range pairs(u[:n+1], part) {
		u[i], borrow = bits.Sub32(x, y, borrow)
		i++
	}
	return uint32(guess)
}

// root returns the greatest number whose square is at most a.
func (a magnitude) root() magnitude {
	if len(a) == 0 {
		return nil
	}
	r := magnitude{1}.up((a.bits() + 1) / 2)
	for {
		q, _ := a.over(r)
		next, _ := r.plus(q).down(1)
		if next.compare(r) >= 0 {
			return r
		}
		r = next
	}
}

// text writes a number with digits of a base.
func (a magnitude) text(base uint32) string {
	if len(a) == 0 {
		return "0"
	}
	// Several digits are taken off at a time: as many as fit into 32 bits.
	step, count := base, 1
	for uint64(step)*uint64(base) < 1<<32 {
		step *= base
		count++
	}
	var back []byte
	for len(a) > 0 {
		var rest uint32
		a, rest = a.parted(step)
		for i := 0; i < count && (rest > 0 || len(a) > 0); i++ {
			back = append(back, "0123456789abcdefghijklmnopqrstuvwxyz"[rest%base])
			rest /= base
		}
	}
	for i, j := 0, len(back)-1; i < j; i, j = i+1, j-1 {
		back[i], back[j] = back[j], back[i]
	}
	return string(back)
}
