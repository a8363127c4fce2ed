package binary

import (
	"strings"
	"unicode/utf8"

	"threadbare/api"
)

// hexDigit returns the value of a hexadecimal digit, or -1.
func hexDigit(c byte) int {
	switch {
	case c >= '0' && c <= '9':
		return int(c - '0')
	case c >= 'a' && c <= 'f':
		return int(c-'a') + 10
	case c >= 'A' && c <= 'F':
		return int(c-'A') + 10
	}
	return -1
}

// hexByte returns the byte that two digits are at the beginning of a text.
func hexByte(s string) (byte, bool) {
	if len(s) < 2 || hexDigit(s[0]) < 0 || hexDigit(s[1]) < 0 {
		return 0, false
	}
	return byte(hexDigit(s[0])<<4 | hexDigit(s[1])), true
}

// Hex returns two digits for each byte.
func Hex(s string) string {
	var b strings.Builder
	for i := range len(s) {
		b.WriteByte("0123456789abcdef"[s[i]>>4])
		b.WriteByte("0123456789abcdef"[s[i]&15])
	}
	return b.String()
}

// Unhex returns the bytes of digits.
func Unhex(s string) (string, api.Errno) {
	var b strings.Builder
	for ; s != ""; s = s[2:] {
		c, ok := hexByte(s)
		if !ok {
			return "", api.ErrSyntax
		}
		b.WriteByte(c)
	}
	return b.String(), api.OK
}

const digits64 = "ABCDEFGHIJKLMNOPQRSTUVWXYZabcdefghijklmnopqrstuvwxyz0123456789+/"

// Base64 returns the base64 text.
func Base64(s string) string {
	var b strings.Builder
	for at := 0; at < len(s); at += 3 {
		v, n := 0, min(len(s)-at, 3)
		for i := range 3 {
			v <<= 8
			if i < n {
				v |= int(s[at+i])
			}
		}
		for i := range 4 {
			if i > n {
				b.WriteByte('=')
			} else {
				b.WriteByte(digits64[v>>(18-6*i)&63])
			}
		}
	}
	return b.String()
}

// Unbase64 returns the bytes of a base64 text.
func Unbase64(s string) (string, api.Errno) {
	var b strings.Builder
	v, bits := 0, 0
	for i := range len(s) {
		if s[i] == '=' {
			break
		}
		d := strings.IndexByte(digits64, s[i])
		if d < 0 {
			return "", api.ErrSyntax
		}
		v, bits = v<<6|d, bits+6
		if bits >= 8 {
			bits -= 8
			b.WriteByte(byte(v >> bits))
			v &= 1<<bits - 1
		}
	}
	// What is written in another way than just so shows when it is written again.
	if Base64(b.String()) != s {
		return "", api.ErrSyntax
	}
	return b.String(), api.OK
}

func unreserved(c byte) bool {
	return c >= '0' && c <= '9' || c >= 'a' && c <= 'z' || c >= 'A' && c <= 'Z' || strings.IndexByte("-._~", c) >= 0
}

// Percent returns a text in which most bytes are written by digits.
func Percent(s string) string {
	var b strings.Builder
	for i := range len(s) {
		if unreserved(s[i]) {
			b.WriteByte(s[i])
			continue
		}
		b.WriteByte('%')
		b.WriteByte("0123456789ABCDEF"[s[i]>>4])
		b.WriteByte("0123456789ABCDEF"[s[i]&15])
	}
	return b.String()
}

// Unpercent returns the bytes that Percent writes.
func Unpercent(s string) (string, api.Errno) {
	var b strings.Builder
	for i := 0; i < len(s); i++ {
		if s[i] != '%' {
			b.WriteByte(s[i])
			continue
		}
		c, ok := hexByte(s[i+1:])
		if !ok {
			return "", api.ErrSyntax
		}
		b.WriteByte(c)
		i += 2
	}
	return b.String(), api.OK
}

// Points returns the code points of a text.
func Points(s string) ([]int, api.Errno) {
	if !utf8.ValidString(s) {
		return nil, api.ErrSyntax
	}
	var l []int
	for _, r := range s {
		l = append(l, int(r))
	}
	return l, api.OK
}

// OfPoints writes code points.
func OfPoints(l []int) (string, api.Errno) {
	var b strings.Builder
	for _, n := range l {
		if n < 0 || n > 0x10FFFF || n >= 0xD800 && n <= 0xDFFF {
			return "", api.ErrRange
		}
		b.WriteRune(rune(n))
	}
	return b.String(), api.OK
}

// Wide reports whether a text has a code point above 127.
func Wide(s string) bool {
	l, _ := Points(s)
	for _, n := range l {
		if n > 127 {
			return true
		}
	}
	return false
}

// Latin returns a byte for each code point.
func Latin(s string) (string, api.Errno) {
	l, e := Points(s)
	if e != api.OK {
		return "", e
	}
	var b strings.Builder
	for _, n := range l {
		if n > 255 {
			return "", api.ErrRange
		}
		b.WriteByte(byte(n))
	}
	return b.String(), api.OK
}

// Unlatin returns the text whose code points are the bytes.
func Unlatin(s string) (string, api.Errno) {
	var b strings.Builder
	for i := range len(s) {
		b.WriteRune(rune(s[i]))
	}
	if b.Len() > api.MaxText {
		return "", api.ErrLimit
	}
	return b.String(), api.OK
}

// Crc32 returns the CRC-32.
func Crc32(s string) int {
	sum := ^uint32(0)
	for i := range len(s) {
		sum ^= uint32(s[i])
		for range 8 {
			low := sum & 1
			sum = sum>>1 ^ 0xEDB88320*low
		}
	}
	return int(^sum)
}

// Sum64 returns the 64-bit hash.
func Sum64(s string) uint64 {
	sum := uint64(14695981039346656037)
	for i := range len(s) {
		sum = (sum ^ uint64(s[i])) * 1099511628211
	}
	return sum
}
