package binary

import (
	"iter"
	"strings"

	"threadbare/api"
	"threadbare/big"
	"threadbare/text"
)

// The counts of fields that are no numbers.
const (
	none = -1
	all  = -2
)

// field is a field of a layout; wrong, if it is none.
type field struct {
	letter   byte
	unsigned bool
	count    int
	wrong    bool
}

// times returns the count, or a number in the place of none, and of all.
func (f field) times(ifNone, ifAll int) int {
	switch f.count {
	case none:
		return ifNone
	case all:
		return ifAll
	}
	return f.count
}

// fields gives the fields of a layout, up to one that is wrong.
func fields(layout string) iter.Seq[field] {
	return func(yield func(field) bool) {
		at := 0
		for {
			for at < len(layout) && layout[at] == ' ' {
				at++
			}
			if at == len(layout) {
				return
			}
			f, n := readField(layout[at:])
			if !yield(f) || f.wrong {
				return
			}
			at += n
		}
	}
}

func readField(s string) (field, int) {
	f := field{letter: s[0], count: none}
	at := 1
	if strings.IndexByte("aAhHbBcsSiIwWx@", f.letter) < 0 {
		return field{wrong: true}, 0
	}
	if at < len(s) && s[at] == 'u' && strings.IndexByte("csSiIwW", f.letter) >= 0 {
		f.unsigned = true
		at++
	}
	if at < len(s) && s[at] == '*' {
		f.count = all
		at++
	} else if digits := countDigits(s[at:]); digits > 0 {
		f.count = 0
		for _, c := range []byte(s[at : at+digits]) {
			f.count = f.count*10 + int(c-'0')
		}
		at += digits
	}
	if f.letter == '@' && f.count == none {
		return field{wrong: true}, 0
	}
	return f, at
}

// countDigits returns how many digits of a count a text begins with.
func countDigits(s string) int {
	n := 0
	for n < len(s) && n < 4 && s[n] >= '0' && s[n] <= '9' {
		n++
		if s[0] == '0' {
			break
		}
	}
	return n
}

// checked returns the fields of a layout; to pack there is no u: it belongs to a layout, but means nothing to Pack.
func checked(layout string, pack bool) ([]field, api.Errno) {
	var l []field
	for f := range fields(layout) {
		if f.wrong || pack && f.unsigned {
			return nil, api.ErrSyntax
		}
		l = append(l, f)
	}
	return l, api.OK
}

// form says how a letter packs its argument, how many bytes it packs with a count, and what it tells of bytes; tell returns how many bytes it took, -1 if some lack.
type form struct {
	pack func(f field, arg string) ([]byte, api.Errno)
	size func(f field) int
	tell func(f field, s string) (string, int)
}

func forms() map[byte]form {
	m := map[byte]form{'a': texts(0), 'A': texts(' ')}
	for _, letter := range []byte("hHbB") {
		m[letter] = digitsForm(letter)
	}
	for letter, size := range map[byte]int{'c': 1, 's': 2, 'i': 4, 'w': 8} {
		m[letter] = numbers(size, false)
		if letter != 'c' {
			m[letter-32] = numbers(size, true)
		}
	}
	return m
}

func texts(fill byte) form {
	return form{
		pack: func(f field, arg string) ([]byte, api.Errno) {
			n := f.times(1, len(arg))
			b := []byte(arg[:min(n, len(arg))])
			for len(b) < n {
				b = append(b, fill)
			}
			return b, api.OK
		},
		size: func(f field) int { return f.times(1, 0) },
		tell: func(f field, s string) (string, int) {
			n := f.times(1, len(s))
			if n > len(s) {
				return "", -1
			}
			s = s[:n]
			if fill == ' ' {
				s = text.Trim(s, " \x00", false, true)
			}
			return s, n
		},
	}
}

// digitsForm packs digits, several in a byte.
func digitsForm(letter byte) form {
	bits := 4
	if letter == 'b' || letter == 'B' {
		bits = 1
	}
	perByte := 8 / bits
	high := letter < 'a'
	shift := func(i int) int {
		if high {
			return 8 - bits - i%perByte*bits
		}
		return i % perByte * bits
	}
	sized := func(n int) int { return (n + perByte - 1) / perByte }
	return form{
		pack: func(f field, arg string) ([]byte, api.Errno) {
			n := f.times(1, len(arg))
			b := make([]byte, sized(n))
			for i := range len(arg) {
				d := hexDigit(arg[i])
				if d < 0 || d >= 1<<bits {
					return nil, api.ErrKind
				}
				if i < n {
					b[i/perByte] |= byte(d << shift(i))
				}
			}
			return b, api.OK
		},
		size: func(f field) int { return sized(f.times(1, 0)) },
		tell: func(f field, s string) (string, int) {
			n := f.times(1, len(s)*perByte)
			if sized(n) > len(s) {
				return "", -1
			}
			var b strings.Builder
			for i := range n {
				b.WriteByte("0123456789abcdef"[int(s[i/perByte])>>shift(i)&(1<<bits-1)])
			}
			return b.String(), sized(n)
		},
	}
}

// numbers packs numbers of some bytes.
func numbers(size int, high bool) form {
	return form{
		pack: func(f field, arg string) ([]byte, api.Errno) {
			words := []string{arg}
			if f.count != none {
				words = wordsOf(arg)
			}
			n := f.times(1, len(words))
			if len(words) < n {
				return nil, api.ErrKind
			}
			var b []byte
			for i, w := range words {
				v, e := modulo(w)
				if e != api.OK {
					return nil, e
				}
				if i < n {
					b = append(b, ordered(lowFirst(v, size), high)...)
				}
			}
			return b, api.OK
		},
		size: func(f field) int { return size * f.times(1, 0) },
		tell: func(f field, s string) (string, int) {
			n := f.times(1, len(s)/size)
			if n*size > len(s) {
				return "", -1
			}
			var l []string
			for i := range n {
				l = append(l, valueOf(ordered([]byte(s[i*size:(i+1)*size]), high), f.unsigned))
			}
			return strings.Join(l, " "), n * size
		},
	}
}

func wordsOf(s string) []string {
	var l []string
	for at := 0; at < len(s); {
		if text.White(s[at]) {
			at++
			continue
		}
		end := at
		for end < len(s) && !text.White(s[end]) {
			end++
		}
		l = append(l, s[at:end])
		at = end
	}
	return l
}

// modulo returns a number modulo 2 to the power of 64.
func modulo(s string) (uint64, api.Errno) {
	low, e := big.And(s, "0xffffffffffffffff")
	switch e {
	case api.OK:
	case api.ErrSyntax:
		return 0, api.ErrKind
	default:
		return 0, e
	}
	// The sign is taken off first, so that the number fits into an int.
	if n, e := big.Int(low); e == api.OK {
		return uint64(n), api.OK
	}
	low, _ = big.Sub(low, "0x10000000000000000")
	n, _ := big.Int(low)
	return uint64(n), api.OK
}

func lowFirst(v uint64, size int) []byte {
	b := make([]byte, size)
	for i := range b {
		b[i] = byte(v >> (8 * i))
	}
	return b
}

// ordered returns elements in the opposite order, if the high ones come first.
func ordered[T any](l []T, high bool) []T {
	r := append([]T(nil), l...)
	for i := range r {
		if high {
			r[i] = l[len(l)-1-i]
		}
	}
	return r
}

func valueOf(b []byte, unsigned bool) string {
	v := uint64(0)
	for i, c := range b {
		v |= uint64(c) << (8 * i)
	}
	free := 64 - 8*len(b)
	n := int64(v<<free) >> free
	s := big.Of(int(n))
	if unsigned && n < 0 {
		s, _ = big.Add(s, big2(8*len(b)))
	}
	return s
}

func big2(bits int) string {
	s, _ := big.Shift("1", bits)
	return s
}
