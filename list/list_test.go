package list

import (
	"slices"
	"strings"
	"testing"

	"threadbare/api"
)

type outcome struct {
	s string
	e api.Errno
}

func is(t *testing.T, name, s string, e api.Errno, want string, wantE api.Errno) {
	t.Helper()
	if s != want || e != wantE {
		t.Errorf("%s = %.60q, %d, not %.60q, %d", name, s, e, want, wantE)
	}
}

func many(n int) string { return strings.Repeat("a ", n) }

// 2.1
func TestQuote(t *testing.T) {
	for s, want := range map[string]string{
		"": "{}", "a": "a", "a b": "{a b}", "a{": "a\\{", "#x": "{#x}", "x#": "x#", "#{": "\\#\\{", "a\\": "a\\\\", "a\\\\": "{a\\\\}", "a\\\n": "a\\\\\\n", "a\\\\\n": "a\\\\\\\\\\n", "}{": "\\}\\{", "{}": "{{}}", "\\{": "{\\{}", "\\}": "{\\}}",
		"{\t\n\v\f\r": "\\{\\t\\n\\v\\f\\r", "\n": "{\n}", "\"": "{\"}", "$": "{$}", "[": "{[}", "]": "{]}", ";": "{;}", "{a\\}": "\\{a\\\\\\}", "\xff": "\xff", "{ $[];\"": "\\{\\ \\$\\[\\]\\;\\\"",
	} {
		if Quote(s) != want {
			t.Errorf("Quote(%q) = %q, not %q", s, Quote(s), want)
		}
		if l, _, e := Split(Quote(s)); e != api.OK || len(l) != 1 || l[0] != s {
			t.Errorf("Split(Quote(%q)) = %q, %d", s, l, e)
		}
	}
}

// 2.1
func TestSplit(t *testing.T) {
	for _, c := range []struct {
		s  string
		l  []string
		at int
		e  api.Errno
	}{
		{"a {b c} \"d\\te\"", []string{"a", "b c", "d\te"}, 0, 0}, {" \t\n\v\f\ra ", []string{"a"}, 0, 0}, {"", nil, 0, 0}, {"a {b", nil, 2, api.ErrSyntax}, {"a \"b", nil, 2, api.ErrSyntax}, {"{a}b", nil, 0, api.ErrSyntax}, {"x \"a\"b", nil, 2, api.ErrSyntax},
		{"a{b}c\"d", []string{"a{b}c\"d"}, 0, 0}, {"a\\ b", []string{"a b"}, 0, 0}, {"a\\\n  b", []string{"a b"}, 0, 0}, {"{a\\}b}", []string{"a\\}b"}, 0, 0}, {"{a\\n}", []string{"a\\n"}, 0, 0}, {"\"a\\\"b\"", []string{"a\"b"}, 0, 0}, {"\"a\\\\\"", []string{"a\\"}, 0, 0}, {"\"", nil, 0, api.ErrSyntax}, {"\"\"", []string{""}, 0, 0},
		{"a\\", []string{"a\\"}, 0, 0}, {"{a\\", nil, 0, api.ErrSyntax}, {"{{}", nil, 0, api.ErrSyntax}, {"}", []string{"}"}, 0, 0}, {"{} {}", []string{"", ""}, 0, 0}, {many(10001), nil, 0, api.ErrLimit}, {many(10001) + "{", nil, 20002, api.ErrSyntax},
	} {
		l, at, e := Split(c.s)
		if !slices.Equal(l, c.l) || at != c.at || e != c.e {
			t.Errorf("Split(%.20q) = %.40q, %d, %d", c.s, l, at, e)
		}
		if Valid(c.s) != (c.e == api.OK) {
			t.Errorf("Valid(%.20q)", c.s)
		}
	}
	s, e := Join([]string{"a b", "", "c"})
	is(t, "Join", s, e, "{a b} {} c", 0)
	_, e = Join(make([]string, 10001))
	is(t, "Join of many", "", e, "", api.ErrLimit)
	s, e = Join([]string{strings.Repeat("x", api.MaxText)})
	is(t, "Join of a long one", s, e, strings.Repeat("x", api.MaxText), 0)
	_, e = Join([]string{strings.Repeat("x", api.MaxText), ""})
	is(t, "Join of too long ones", "", e, "", api.ErrLimit)
	s, e = Canonical(" a  {b} \"c d\" ")
	is(t, "Canonical", s, e, "a b {c d}", 0)
	if IsCanonical("a  b") || !IsCanonical("a {b c}") || IsCanonical("{") || !IsCanonical("") {
		t.Error("IsCanonical")
	}
}

// 2.2
func TestPlaces(t *testing.T) {
	if n, e := Length("a {b c}"); n != 2 || e != 0 {
		t.Error("Length")
	}
	if _, e := Length(many(10001)); e != api.ErrLimit {
		t.Error("Length of many")
	}
	for _, c := range []struct {
		s, path, want string
		e             api.Errno
	}{
		{"a {b {c d}}", "1 1 end", "d", 0}, {"a", "", "a", 0}, {"{", "", "{", 0}, {"a b", "2", "", 0}, {"a b", "-1", "", 0}, {"a b", "5 3 2", "", 0}, {"a b", "5 x", "", api.ErrSyntax}, {"{", "0", "", api.ErrSyntax}, {"a \\{", "1 0", "", api.ErrSyntax},
		{many(10001), "0", "", api.ErrLimit}, {many(10001), "0 x", "", api.ErrSyntax}, {many(10001) + "\\{", "10001 0", "", api.ErrSyntax}, {"a b", "end-1", "a", 0},
	} {
		s, e := Index(c.s, strings.Fields(c.path))
		is(t, "Index "+c.path, s, e, c.want, c.e)
	}
	for _, c := range []struct {
		s, path, want string
		e             api.Errno
	}{
		{"a  {b  c}", "1 0", "a {{x y} c}", 0}, {"a", "", "x y", 0}, {"a b", "2", "a b {x y}", 0}, {"a b", "3", "", api.ErrRange}, {"a b", "-1", "", api.ErrRange}, {"a", "1 0", "a {{x y}}", 0}, {"a", "1 1", "", api.ErrRange}, {"a", "9 x", "", api.ErrSyntax}, {"{", "0", "", api.ErrSyntax},
		{"a", "end+1", "a {x y}", 0}, {"", "0", "{x y}", 0}, {many(10001), "0", "", api.ErrLimit}, {many(10001), "20000", "", api.ErrRange}, {many(10001) + "\\{", "10001 0", "", api.ErrSyntax}, {many(10000), "10000", "", api.ErrLimit},
	} {
		s, e := Set(c.s, strings.Fields(c.path), "x y")
		is(t, "Set "+c.path, s, e, c.want, c.e)
	}
	_, e := Set("", nil, strings.Repeat("x", api.MaxText+1))
	is(t, "Set of a long one", "", e, "", api.ErrLimit)
}

// 2.3
func TestChanges(t *testing.T) {
	for _, c := range []struct{ s, from, to, cut, put string }{
		{"a b c d", "1", "2", "b c", "a x {} d"}, {"a b", "-3", "9", "a b", "x {}"}, {"a b", "1", "0", "", "a x {} b"}, {"a b", "5", "9", "", "a b x {}"}, {"a b", "-5", "-1", "", "x {} a b"}, {"", "0", "end", "", "x {}"}, {" a  b", "end", "end", "b", "a x {}"},
	} {
		s, e := Range(c.s, c.from, c.to)
		is(t, "Range", s, e, c.cut, 0)
		s, e = Replace(c.s, c.from, c.to, []string{"x", ""})
		is(t, "Replace", s, e, c.put, 0)
	}
	for at, want := range map[string]string{"0": "x a b", "end": "a b x", "end-1": "a x b", "9": "a b x", "-9": "x a b", "1": "a x b"} {
		s, e := Insert("a b", at, []string{"x"})
		is(t, "Insert "+at, s, e, want, 0)
	}
	for _, f := range []func(s, p string) (string, api.Errno){
		func(s, p string) (string, api.Errno) { return Range(s, "0", p) },
		func(s, p string) (string, api.Errno) { return Replace(s, "0", p, nil) },
		func(s, p string) (string, api.Errno) { return Insert(s, p, nil) },
	} {
		s, e := f("{", "0")
		is(t, "of no list", s, e, "", api.ErrSyntax)
		s, e = f(many(10001), "x")
		is(t, "of no place", s, e, "", api.ErrSyntax)
		s, e = f(many(10001), "0")
		is(t, "of many", s, e, "", api.ErrLimit)
	}
	s, e := Reverse("a {b c}")
	is(t, "Reverse", s, e, "{b c} a", 0)
	_, e = Reverse("{")
	is(t, "Reverse", "", e, "", api.ErrSyntax)
	s, e = Repeat([]string{"a b", "c"}, 2)
	is(t, "Repeat", s, e, "{a b} c {a b} c", 0)
	s, e = Repeat([]string{"a"}, -1<<62)
	is(t, "Repeat", s, e, "", 0)
	s, e = Repeat([]string{"a", "b"}, 1<<62)
	is(t, "Repeat", s, e, "", api.ErrLimit)
	s, e = Repeat(nil, 1<<62)
	is(t, "Repeat", s, e, "", 0)
}

// 2.4
func TestSorted(t *testing.T) {
	for _, c := range []struct {
		l    []string
		want string
	}{{[]string{" a ", "", " \n", "b\\ ", "c"}, "a b\\  c"}, {[]string{"a\\\\ "}, "a\\\\"}, {nil, ""}, {[]string{"a\\  "}, "a\\ "}, {[]string{"\\ "}, "\\ "}} {
		is(t, "Concat", Concat(c.l), 0, c.want, 0)
	}
	for _, c := range []struct {
		s            string
		kind         int
		down, unique bool
		want         string
		e            api.Errno
	}{
		{"10 9 1", 1, false, false, "1 9 10", 0}, {"10 9 1", 0, false, false, "1 10 9", 0}, {"b B a A", 2, false, false, "a A b B", 0}, {"b B a A", 2, true, false, "b B a A", 0}, {"b B a A", 2, false, true, "A B", 0}, {"b B a A", 2, true, true, "B A", 0}, {"01 1 -0 0", 1, false, true, "0 1", 0},
		{"a", 1, false, false, "", api.ErrKind}, {"+1", 1, false, false, "", api.ErrKind}, {"-", 1, false, false, "", api.ErrKind}, {"{}", 1, false, false, "", api.ErrKind}, {"1234567890123456789", 1, false, false, "", api.ErrKind}, {"-999999999999999999 999999999999999999", 1, true, false, "999999999999999999 -999999999999999999", 0},
		{"{", 3, false, false, "", api.ErrInvalid}, {"", -1, false, false, "", api.ErrInvalid}, {"{", 1, false, false, "", api.ErrSyntax}, {many(10001), 1, false, false, "", api.ErrKind}, {strings.Repeat("1 ", 10001), 1, false, true, "", api.ErrLimit}, {many(10001), 0, false, true, "", api.ErrLimit}, {"", 0, true, true, "", 0},
	} {
		s, e := Sort(c.s, c.kind, c.down, c.unique)
		is(t, "Sort of "+c.s[:min(9, len(c.s))], s, e, c.want, c.e)
	}
	for _, c := range []struct {
		pattern    string
		kind, from int
		want       int
		e          api.Errno
	}{{"b", 0, -5, 1, 0}, {"b", 0, 2, 3, 0}, {"?B", 1, 0, -1, 0}, {"?B", 2, 0, 2, 0}, {"b*", 1, 9, -1, 0}, {"b", 3, 0, 0, api.ErrInvalid}, {"b", -1, 0, 0, api.ErrInvalid}} {
		if n, e := Search("a b ab b", c.pattern, c.kind, c.from); n != c.want || e != c.e {
			t.Errorf("Search(%s, %d) = %d, %d", c.pattern, c.kind, n, e)
		}
	}
	if n, e := Search("{", "", 0, 0); n != 0 || e != api.ErrSyntax {
		t.Error("Search in no list")
	}
	s, e := Flat("a {b {c d}} {}")
	is(t, "Flat", s, e, "a b {c d}", 0)
	_, e = Flat("a {{}x}")
	is(t, "Flat", "", e, "", api.ErrSyntax)
	_, e = Flat(many(10001) + "\\{")
	is(t, "Flat", "", e, "", api.ErrSyntax)
	_, e = Flat(many(10001))
	is(t, "Flat", "", e, "", api.ErrLimit)
	_, e = Flat("{" + many(10001) + "} {{}x}")
	is(t, "Flat", "", e, "", api.ErrSyntax)
	_, e = Flat("{" + many(6000) + "} {" + many(6000) + "}")
	is(t, "Flat", "", e, "", api.ErrLimit)
}
