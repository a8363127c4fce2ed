package binary

import (
	"slices"
	"strings"
	"testing"

	"threadbare/api"
)

func nines(n int) string { return strings.Repeat("9", n) }

// 10.1
func TestPack(t *testing.T) {
	for _, c := range []struct {
		layout string
		args   []string
		want   string
		e      api.Errno
	}{
		{"a3 s H4", []string{"ab", "258", "0a1b"}, "ab\x00\x02\x01\x0a\x1b", 0}, {"aA3a2", []string{"xy", "q", "abc"}, "xq  ab", 0}, {"a*A*a0", []string{"ab", "cd", "ef"}, "abcd", 0}, {" h3  H3 h H ", []string{"123", "123", "f", "f"}, "\x21\x03\x12\x30\x0f\xf0", 0}, {"h4h*", []string{"1", "aBc"}, "\x01\x00\xba\x0c", 0}, {"b9B9bB*", []string{"101", "101", "1", "11"}, "\x05\x00\xa0\x00\x01\xc0", 0},
		{"c sSiIwW", []string{"-1", "1", "1", "1", "1", "1", "1"}, "\xff\x01\x00\x00\x01\x01\x00\x00\x00\x00\x00\x00\x01\x01\x00\x00\x00\x00\x00\x00\x00\x00\x00\x00\x00\x00\x00\x00\x01", 0}, {"c2c*c0", []string{"1 2 3", "\t4 0x5\n", ""}, "\x01\x02\x04\x05", 0}, {"w", []string{"0xf0000000000000001"}, "\x01\x00\x00\x00\x00\x00\x00\x00", 0}, {"w", []string{"-" + nines(600)}, "\x01\x00\x00\x00\x00\x00\x00\x00", 0}, {"W", []string{"0x8000000000000000"}, "\x80\x00\x00\x00\x00\x00\x00\x00", 0}, {"c", []string{" 300 "}, "\x2c", 0},
		{"xx2x*a", []string{"q"}, "\x00\x00\x00\x00q", 0}, {"@3a@1a@*a@0a", []string{"a", "b", "c", "d"}, "db\x00ac", 0}, {"a2@5", []string{"ab"}, "ab\x00\x00\x00", 0}, {"a3@0x", []string{"abc"}, "\x00bc", 0}, {"", []string{"x"}, "", 0}, {"x0@0", nil, "", 0}, {"a*", []string{strings.Repeat("x", api.MaxText)}, strings.Repeat("x", api.MaxText), 0}, {"@0a2@0a", []string{"ab", "c"}, "cb", 0},
		{"q", nil, "", api.ErrSyntax}, {"cu", []string{"1"}, "", api.ErrSyntax}, {"@", nil, "", api.ErrSyntax}, {"a01", []string{"a"}, "", api.ErrSyntax}, {"a10000", []string{"a"}, "", api.ErrSyntax}, {"a\ta", []string{"a", "a"}, "", api.ErrSyntax}, {"au", []string{"a"}, "", api.ErrSyntax}, {"a 3", []string{"a"}, "", api.ErrSyntax}, {"-", nil, "", api.ErrSyntax},
		{"ac", []string{"a"}, "", api.ErrNone}, {"cc", []string{"x"}, "", api.ErrKind}, {"h", []string{"g"}, "", api.ErrKind}, {"h1", []string{"0x"}, "", api.ErrKind}, {"b", []string{"2"}, "", api.ErrKind}, {"c", []string{"1 2"}, "", api.ErrKind}, {"c", []string{""}, "", api.ErrKind}, {"c2", []string{"1"}, "", api.ErrKind}, {"c1", []string{"1 x"}, "", api.ErrKind}, {"c2", []string{nines(601)}, "", api.ErrKind}, {"c1", []string{nines(601) + " x"}, "", api.ErrLimit}, {"c1", []string{"x " + nines(601)}, "", api.ErrKind}, {"c", []string{nines(601)}, "", api.ErrLimit},
		{"a*a", []string{strings.Repeat("x", api.MaxText), "q"}, "", api.ErrLimit}, {"a*x", []string{strings.Repeat("x", api.MaxText)}, "", api.ErrLimit}, {"a*q", []string{strings.Repeat("x", api.MaxText+1)}, "", api.ErrSyntax}, {strings.Repeat("x9999", 7), nil, "", api.ErrLimit},
	} {
		if s, e := Pack(c.layout, c.args); s != c.want || e != c.e {
			t.Errorf("Pack(%.20q, %.30q) = %.40q, %d, not %.40q", c.layout, c.args, s, e, c.want)
		}
	}
	for _, c := range []struct {
		layout    string
		fields, n int
		e, e2     api.Errno
	}{{"a3 s H4x2@1c", 4, 9, 0, 0}, {"c*", 1, 0, 0, api.ErrRange}, {"x*@*b9", 1, 3, 0, 0}, {"@20@3h3", 1, 20, 0, 0}, {"q", 0, 0, api.ErrSyntax, api.ErrSyntax}, {"a*q", 0, 0, api.ErrSyntax, api.ErrSyntax}, {"", 0, 0, 0, 0}, {"c0a0H2i3", 4, 13, 0, 0}, {"Iu", 1, 4, 0, 0}, {"cu3 xSu wu0", 3, 6, 0, 0}, {"iu*", 1, 0, 0, api.ErrRange}, {"c au", 0, 0, api.ErrSyntax, api.ErrSyntax}} {
		fields, e := Fields(c.layout)
		n, e2 := Length(c.layout)
		if fields != c.fields || n != c.n || e != c.e || e2 != c.e2 {
			t.Errorf("%q: %d fields (%d), %d bytes (%d)", c.layout, fields, e, n, e2)
		}
	}
}

// 10.1
func TestUnpack(t *testing.T) {
	for _, c := range []struct {
		layout, s string
		want      []string
		done      bool
		e         api.Errno
	}{
		{"c2 cu", "\xff\x01\xff", []string{"-1 1", "255"}, true, 0}, {"a2A4a*", "ab x \x00cd", []string{"ab", " x", "cd"}, true, 0}, {"aA*a*", "ab\x00 ", []string{"a", "b", ""}, true, 0}, {"h3Hh*", "\x21\x43\x1f\xab", []string{"123", "1", "ba"}, true, 0}, {"b3B3b*B", "\x05\xa0\x01", []string{"101", "101", "10000000"}, false, 0},
		{"sSiI", "\xff\xff\x01\x00\xfe\xff\xff\xff\x00\x00\x01\x00", []string{"-1", "256", "-2", "256"}, true, 0}, {"wuWu", "\xff\xff\xff\xff\xff\xff\xff\xff\x80\x00\x00\x00\x00\x00\x00\x00", []string{"18446744073709551615", "9223372036854775808"}, true, 0}, {"wW", "\xff\xff\xff\xff\xff\xff\xff\xff\x80\x00\x00\x00\x00\x00\x00\x00", []string{"-1", "-9223372036854775808"}, true, 0}, {"su3iu", "\x01\x00\xff\xff\x00\x80\xff\xff\xff\xff", []string{"1 65535 32768", "4294967295"}, true, 0},
		{"s*a*", "\x01\x00\x02\x00\x03", []string{"1 2", "\x03"}, true, 0}, {"c0a0h0", "", []string{"", "", ""}, true, 0}, {"a3", "ab", nil, false, 0}, {"aa3a", "ab", []string{"a"}, false, 0}, {"xax*a", "abcd", []string{"b", "d"}, true, 0}, {"x5", "abcd", nil, false, 0}, {"@2a@0a@*a*", "abc", []string{"c", "a", ""}, true, 0}, {"@4", "abc", nil, false, 0}, {"s", "a", nil, false, 0}, {"c3", "ab", nil, false, 0}, {"h5", "ab", nil, false, 0}, {"a*", "", []string{""}, true, 0},
		{"q", "abc", nil, false, api.ErrSyntax}, {"a3q", "", nil, false, api.ErrSyntax}, {"hu", "a", nil, false, api.ErrSyntax}, {"xu", "a", nil, false, api.ErrSyntax},
	} {
		l, done, e := Unpack(c.layout, c.s)
		if !slices.Equal(l, c.want) || done != c.done || e != c.e {
			t.Errorf("Unpack(%q, %q) = %q, %t, %d", c.layout, c.s, l, done, e)
		}
	}
	packed, _ := Pack("c3S2i4w2a*", []string{"-1 300 5", "7 -8", "1 2 3 4", "-5 6", "rest"})
	if l, _, _ := Unpack("c3S2i4w2a*", packed); !slices.Equal(l, []string{"-1 44 5", "7 -8", "1 2 3 4", "-5 6", "rest"}) {
		t.Errorf("there and back: %q", l)
	}
}

type result struct {
	s string
	e api.Errno
}

func of(s string, e api.Errno) result { return result{s, e} }

// 10.2, 10.3
func TestCodes(t *testing.T) {
	every := ""
	for c := range 256 {
		every += string([]byte{byte(c)})
	}
	for n := range 256 {
		s := every[:n]
		for name, got := range map[string]result{"hex": of(Unhex(Hex(s))), "hex great": of(Unhex(strings.ToUpper(Hex(s)))), "base64": of(Unbase64(Base64(s))), "percent": of(Unpercent(Percent(s)))} {
			if got != of(s, 0) {
				t.Errorf("%s of %d bytes", name, n)
			}
		}
		if len(Base64(s)) != (n+2)/3*4 || len(Hex(s)) != 2*n {
			t.Error("the length")
		}
	}
	latin, e := Unlatin(every)
	if back, e2 := Latin(latin); e != 0 || e2 != 0 || back != every || !Wide(latin) {
		t.Error("Latin")
	}
	for _, c := range []struct {
		name      string
		got, want result
	}{
		{"Hex", of(Hex("\x00\xaf"), 0), of("00af", 0)}, {"Base64", of(Base64("ab"), 0), of("YWI=", 0)}, {"Base64", of(Base64("\xff\xfe\xfd"), 0), of("//79", 0)}, {"Percent", of(Percent("aZ9-._~ /%\xff"), 0), of("aZ9-._~%20%2F%25%FF", 0)}, {"Unpercent", of(Unpercent("%2f%2F +")), of("// +", 0)},
		{"Unhex", of(Unhex("abc")), of("", api.ErrSyntax)}, {"Unhex", of(Unhex("0g")), of("", api.ErrSyntax)}, {"Unpercent", of(Unpercent("%2")), of("", api.ErrSyntax)}, {"Unpercent", of(Unpercent("%2g")), of("", api.ErrSyntax)}, {"Unlatin", of(Unlatin(strings.Repeat("\xff", 32769))), of("", api.ErrLimit)}, {"Latin", of(Latin("\xff")), of("", api.ErrSyntax)}, {"Latin", of(Latin("ā")), of("", api.ErrRange)},
		{"OfPoints", of(OfPoints([]int{65, 0x20ac, 0x10ffff})), of("A€\U0010ffff", 0)}, {"OfPoints", of(OfPoints([]int{0xd800})), of("", api.ErrRange)}, {"OfPoints", of(OfPoints([]int{0x110000})), of("", api.ErrRange)}, {"OfPoints", of(OfPoints([]int{-1})), of("", api.ErrRange)},
	} {
		if c.got != c.want {
			t.Errorf("%s = %q, %d", c.name, c.got.s, c.got.e)
		}
	}
	for _, s := range []string{"YWI", "YWI==", "YWJ=", "YQ=a", "Y===", "Y", "====", "YWI=YWI=", "YW I", "YWI=\n", "=", "YR=="} {
		if _, e := Unbase64(s); e != api.ErrSyntax {
			t.Errorf("Unbase64(%q)", s)
		}
	}
	if l, e := Points("a€\U0001f600"); e != 0 || !slices.Equal(l, []int{97, 0x20ac, 0x1f600}) {
		t.Errorf("Points = %v", l)
	}
	for _, s := range []string{"\xc0\x80", "\xed\xa0\x80", "\xf4\x90\x80\x80", "\x80", "\xe2\x82"} {
		if l, e := Points(s); e != api.ErrSyntax || l != nil || Wide(s) {
			t.Errorf("Points(%q)", s)
		}
	}
	if Wide("abc") || Wide("é\xff") || !Wide("é") {
		t.Error("Wide")
	}
}

// 10.4
func TestSums(t *testing.T) {
	if Crc32("123456789") != 3421780262 || Crc32("") != 0 {
		t.Error("Crc32")
	}
	if Sum64("") != 14695981039346656037 || Sum64("a") != 0xaf63dc4c8601ec8c || Sum64("foobar") != 0x85944171f73967e8 {
		t.Error("Sum64")
	}
}
