package dict

import (
	"slices"
	"strings"
	"testing"

	"threadbare/api"
)

func is(t *testing.T, name, s string, e api.Errno, want string, wantE api.Errno) {
	t.Helper()
	if s != want || e != wantE {
		t.Errorf("%s = %.60q, %d, not %.60q, %d", name, s, e, want, wantE)
	}
}

func many(n int) string { return strings.Repeat("a ", n) }

// 4.1
func TestRead(t *testing.T) {
	for s, want := range map[string]string{"a 1 b 2 a 3": "a 3 b 2", "": "", " x  {y z} ": "x {y z}", "{} {}": "{} {}", many(10000): "a a"} {
		got, e := Canonical(s)
		is(t, "Canonical", got, e, want, 0)
		if n, e := Size(s); e != 0 || n != len(strings.Fields(strings.ReplaceAll(want, "y z", "y")))/2 || !Valid(s) {
			t.Errorf("Size(%.20q) = %d, %d", s, n, e)
		}
	}
	for _, s := range []string{"a", "{", "a b c", many(10002)} {
		got, e := Canonical(s)
		is(t, "Canonical", got, e, "", api.ErrKind)
		if n, e := Size(s); n != 0 || e != api.ErrKind || Valid(s) {
			t.Errorf("Size(%.20q)", s)
		}
		if l, e := Pairs(s); l != nil || e != api.ErrKind {
			t.Errorf("Pairs(%.20q)", s)
		}
	}
	if l, e := Pairs("a 1 b 2 a 3"); e != 0 || !slices.Equal(l, []string{"a", "3", "b", "2"}) {
		t.Errorf("Pairs = %q", l)
	}
	got, e := Canonical("a {" + strings.Repeat("x", api.MaxText) + "}")
	is(t, "Canonical", got, e, "", api.ErrLimit)
}

// 4.2
func TestPaths(t *testing.T) {
	for _, c := range []struct {
		s, path   string
		get       string
		getE      api.Errno
		set       string
		setE      api.Errno
		without   string
		withoutE  api.Errno
		therefore bool
	}{
		{"a {x  1 y 2}", "a x", "1", 0, "a {x 5 y 2}", 0, "a {y 2}", 0, true},
		{"a 1  b 2", "", "a 1 b 2", 0, "", api.ErrRange, "", api.ErrRange, true},
		{"a", "", "", api.ErrKind, "", api.ErrKind, "", api.ErrKind, false},
		{"", "x y", "", api.ErrNone, "x {y 5}", 0, "", api.ErrNone, false},
		{"a  {b  1}", "a c", "", api.ErrNone, "a {b 1 c 5}", 0, "a {b 1}", 0, false},
		{"a x", "a c", "", api.ErrKind, "", api.ErrKind, "", api.ErrKind, false},
		{"a 1", "b c d", "", api.ErrNone, "a 1 b {c {d 5}}", 0, "", api.ErrNone, false},
		{"a 1 b 2 a 3", "a", "3", 0, "a 5 b 2", 0, "b 2", 0, true},
		{"{", "a", "", api.ErrKind, "", api.ErrKind, "", api.ErrKind, false},
	} {
		path := strings.Fields(c.path)
		s, e := Get(c.s, path)
		is(t, "Get "+c.path, s, e, c.get, c.getE)
		s, e = Set(c.s, path, "5")
		is(t, "Set "+c.path, s, e, c.set, c.setE)
		s, e = Unset(c.s, path)
		is(t, "Unset "+c.path, s, e, c.without, c.withoutE)
		if Exists(c.s, path) != c.therefore {
			t.Errorf("Exists(%q, %q)", c.s, c.path)
		}
	}
	s, e := Set("", []string{"a"}, strings.Repeat("x", api.MaxText))
	is(t, "Set", s, e, "", api.ErrLimit)
	var l []string
	for i := range 5000 {
		l = append(l, strings.Repeat("k", i%9)+string(rune('a'+i/9%26))+string(rune('a'+i/9/26)), "")
	}
	full, _ := Create(l)
	if n, _ := Size(full); n != 5000 {
		t.Fatal("not 5000 keys")
	}
	s, e = Set(full, []string{"new"}, "")
	is(t, "Set of one more", s, e, "", api.ErrLimit)
}

// 4.3
func TestMany(t *testing.T) {
	if l, e := Keys("ab 1 b 2 ac 3", "a*"); e != 0 || !slices.Equal(l, []string{"ab", "ac"}) {
		t.Errorf("Keys = %q, %d", l, e)
	}
	if l, e := Values("a 1 b 2 c 1", "1"); e != 0 || !slices.Equal(l, []string{"1", "1"}) {
		t.Errorf("Values = %q, %d", l, e)
	}
	if _, e := Keys("a", "*"); e != api.ErrKind {
		t.Error("Keys of none")
	}
	if _, e := Values("a", "*"); e != api.ErrKind {
		t.Error("Values of none")
	}
	s, e := Merge([]string{"a 1 b 2", "", "c 3 a 4"})
	is(t, "Merge", s, e, "a 4 b 2 c 3", 0)
	s, e = Merge(nil)
	is(t, "Merge", s, e, "", 0)
	s, e = Merge([]string{"a 1", "b"})
	is(t, "Merge", s, e, "", api.ErrKind)
	s, e = Remove("a 1 b 2 c 3", []string{"c", "x", "a"})
	is(t, "Remove", s, e, "b 2", 0)
	s, e = Remove("a", nil)
	is(t, "Remove", s, e, "", api.ErrKind)
	s, e = Filter("ab 1 b 2 ac 3", "a*", false)
	is(t, "Filter", s, e, "ab 1 ac 3", 0)
	s, e = Filter("ab 1 b 2 ac 3", "[23]", true)
	is(t, "Filter", s, e, "b 2 ac 3", 0)
	s, e = Filter("a", "*", true)
	is(t, "Filter", s, e, "", api.ErrKind)
	s, e = Create([]string{"a", "1", "b", "2", "a", "3"})
	is(t, "Create", s, e, "a 3 b 2", 0)
	s, e = Create([]string{"a"})
	is(t, "Create", s, e, "", api.ErrInvalid)
	s, e = Create(strings.Fields(many(10002)))
	is(t, "Create", s, e, "a a", 0)
}

// 4.4
func TestAlike(t *testing.T) {
	for _, c := range []struct {
		a, b string
		want bool
	}{{"a 1 b 2", " b 2 a 1 ", true}, {"a 1", "a 1 b 2", false}, {"a 1", "a 2", false}, {"a 1 a 2", "a 2", true}, {"a", "a", false}, {"", "", true}, {"", "x", false}, {"a 1", "b 1", false}} {
		if Alike(c.a, c.b) != c.want {
			t.Errorf("Alike(%q, %q)", c.a, c.b)
		}
	}
	s, e := Invert("a 1 b 2 c 1")
	is(t, "Invert", s, e, "1 c 2 b", 0)
	s, e = Invert("a")
	is(t, "Invert", s, e, "", api.ErrKind)
}
