package vars

import (
	"fmt"
	"strings"
	"testing"

	"threadbare/api"
)

func want(t *testing.T, name string, got, want any) {
	t.Helper()
	if fmt.Sprint(got) != fmt.Sprint(want) {
		t.Errorf("%s: %v, not %v", name, got, want)
	}
}

func all(l ...any) string {
	var r []string
	for _, x := range l {
		r = append(r, fmt.Sprint(x))
	}
	return strings.Join(r, " ")
}

func both(x any, e api.Errno) string { return fmt.Sprintf("%v %d", x, e) }

// 15.1
func TestScopes(t *testing.T) {
	s := New()
	a, r, b := s.Push(), s.Room("n"), s.Push()
	want(t, "numbers", []int{a, r, b, s.Room("n"), s.Room(""), s.Calls()}, "[1 2 3 2 0 2]")
	want(t, "Scope", both(s.Scope(0))+both(s.Scope(1))+both(s.Scope(2))+both(s.Scope(3))+both(s.Scope(-1)), "0 01 03 00 70 7")
	s.Set(b, "x", "1")
	want(t, "Pop", s.Pop(), api.OK)
	want(t, "an ended call", both(s.Get(b, "x")), both("", api.ErrRange))
	want(t, "Push", s.Push(), 4)
	want(t, "a new call", all(s.Names(4, "*")), "[]")
	s.Pop()
	s.Pop()
	want(t, "Pop of none", s.Pop(), api.ErrState)
	var none *Space
	want(t, "a nil space", all(none.Push(), none.Room("x"), none.Calls(), none.Pop(), none.Kind(0, "x"), none.Linked(0, "x"), none.Names(0, "*"), none.Dump(0)), "0 0 0 9 0 false [] ")
	for _, s := range []*Space{none, New()} {
		_, e1 := s.Get(9, "x")
		_, e2 := s.Keys(9, "x", "*")
		for _, e := range []api.Errno{e1, e2, s.Set(9, "x", ""), s.Unset(9, "x"), s.Link(9, "x(1)", 0, "y"), s.Link(0, "x(1)", 9, "y")} {
			want(t, "no scope", e, api.ErrRange)
		}
		want(t, "no scope", all(s.Kind(9, "x"), s.Linked(9, "x"), s.Names(9, "*"), s.Dump(9)), "0 false [] ")
	}
	_, e := none.Scope(0)
	want(t, "Scope of a nil space", e, api.ErrRange)
}

// 15.2
func TestVariables(t *testing.T) {
	s := New()
	want(t, "Get", both(s.Get(0, "x")), both("", api.ErrNone))
	want(t, "Set", s.Set(0, "x", "1"), api.OK)
	want(t, "Get", both(s.Get(0, "x")), "1 0")
	want(t, "of a scalar", all(s.Set(0, "x(1)", ""), s.Unset(0, "x(1)"), s.Kind(0, "x"), s.Kind(0, "x(1)"), both(s.Get(0, "x(1)"))), "11 11 1 0 "+both("", api.ErrKind))
	want(t, "Set", s.Set(0, "a(1)", "one"), api.OK)
	want(t, "of an array", all(s.Set(0, "a", ""), s.Kind(0, "a"), s.Kind(0, "a(1)"), s.Kind(0, "a(2)"), both(s.Get(0, "a")), both(s.Get(0, "a(2)")), s.Unset(0, "a(2)")), "11 2 1 0  11  8 8")
	want(t, "Get", both(s.Get(0, "a(1)")), "one 0")
	want(t, "Unset", all(s.Unset(0, "a(1)"), s.Kind(0, "a"), s.Kind(0, "a(1)")), "0 2 0")
	want(t, "Names", s.Names(0, "*"), "[a x]")
	want(t, "Unset", all(s.Unset(0, "a"), s.Kind(0, "a"), s.Unset(0, "a"), both(s.Get(0, "a(1)")), s.Unset(0, "a(1)")), "0 0 8  8 8")
	want(t, "a scalar now", all(s.Set(0, "a", "2"), s.Kind(0, "a")), "0 1")
	for word, parts := range map[string]string{"": " false", "a(b": "a(b  false", "a)": "a)  false", "a(b)(c)": "a b)(c true", "(x)": " x true", "a()": "a  true", "a(b)c": "a(b)c  false"} {
		name, index, element := Split(word)
		got := fmt.Sprintf("%s %s %t", name, index, element)
		if word == "" {
			parts = "  false"
		}
		want(t, "Split "+word, got, parts)
	}
	for _, word := range []string{"a(b", "a)", "(x)", "q(b)(c)"} {
		want(t, "Set "+word, s.Set(0, word, word), api.OK)
		want(t, "Get "+word, both(s.Get(0, word)), word+" 0")
	}
	want(t, "Keys", both(s.Keys(0, "q", "*")), "[b)(c] 0")
}

// 15.3
func TestLinks(t *testing.T) {
	s := New()
	c := s.Push()
	want(t, "Link", s.Link(c, "x", 0, "a(1)"), api.OK)
	want(t, "before it is set", all(s.Kind(0, "a"), s.Kind(c, "x"), s.Linked(c, "x"), s.Linked(c, "y"), s.Names(c, "*"), s.Names(0, "*"), both(s.Get(c, "x")), s.Set(c, "x(2)", ""), both(s.Get(c, "x(2)"))), "0 0 true false [] []  8 11 "+both("", api.ErrKind))
	s.Set(c, "x", "5")
	want(t, "Get", both(s.Get(0, "a(1)")), "5 0")
	want(t, "Keys", both(s.Keys(0, "a", "*")), "[1] 0")
	want(t, "Kind", all(s.Kind(0, "a"), s.Kind(c, "x")), "2 1")
	want(t, "Set of an element of x", s.Set(c, "x(2)", ""), api.ErrKind)
	want(t, "Unset", s.Unset(c, "x"), api.OK)
	want(t, "what is unset through a link", all(s.Kind(0, "a(1)"), s.Linked(c, "x"), s.Unset(c, "x")), "0 true 8")
	s.Set(0, "a(1)", "6")
	s.Unset(0, "a")
	s.Set(0, "a", "scalar")
	want(t, "the array is a scalar", all(both(s.Get(c, "x")), s.Set(c, "x", ""), s.Unset(c, "x"), s.Kind(c, "x"), s.Names(c, "*")), " 11 11 11 0 []")
	s.Unset(0, "a")
	s.Set(0, "a(1)", "7")
	want(t, "linked still", both(s.Get(c, "x")), "7 0")
	s.Link(c, "y", c, "x")
	s.Link(c, "x", 0, "b")
	want(t, "linked anew", all(both(s.Get(c, "y")), s.Set(c, "x", "8"), both(s.Get(0, "b"))), "7 0 0 8 0")
	s.Set(c, "own", "")
	for _, l := range []struct {
		scope  int
		name   string
		to     int
		word   string
		result api.Errno
	}{{9, "x(1)", 0, "", api.ErrRange}, {c, "x(1)", 9, "", api.ErrRange}, {c, "x(1)", 0, "q", api.ErrName}, {c, "own", c, "own", api.ErrDuplicate}, {c, "z", c, "z", api.ErrState}, {c, "z", c, "z(1)", api.ErrState}, {c, "z", 0, "b(1)", api.ErrKind}, {0, "b", c, "x", api.ErrDuplicate}, {c, "z", c, "y(1)", api.ErrKind}} {
		want(t, all("Link ", l), s.Link(l.scope, l.name, l.to, l.word), l.result)
	}
	s.Unset(0, "b")
	want(t, "to itself by links", s.Link(0, "b", c, "x"), api.ErrState)
	s.Link(c, "e", 0, "d(1)")
	want(t, "to an element of itself by links", s.Link(0, "d", c, "e"), api.ErrState)
	s.Link(0, "g", c, "local")
	s.Set(0, "g", "kept")
	want(t, "Get", both(s.Get(c, "local")), "kept 0")
	s.Pop()
	want(t, "a call that has ended", both(s.Get(0, "g")), "kept 0")
	n := s.Push()
	want(t, "a new call", s.Kind(n, "local"), 0)
	room := s.Room("r")
	s.Link(n, "arr", room, "w")
	s.Set(n, "arr(k)", "v")
	want(t, "an array through a link", both(s.Get(room, "w(k)"))+all(s.Names(n, "*")), "v 0[arr]")
	other := New()
	want(t, "LinkOf", other.LinkOf(0, "far", s, room, "w(k)"), api.OK)
	other.Set(0, "far", "new")
	want(t, "of another space", both(s.Get(room, "w(k)")), "new 0")
}

// 15.3: an element of an element that lies in the name itself is ErrState, ahead of ErrKind.
func TestLinkIntoItself(t *testing.T) {
	s := New()
	want(t, "Link", s.Link(0, "a", 0, "b()"), api.OK)
	for _, word := range []string{"a()", "a(x)", "a", "b", "b()"} {
		want(t, "Link b to "+word, s.Link(0, "b", 0, word), api.ErrState)
	}
	want(t, "Link to an element of what is none of it", s.Link(0, "c", 0, "a()"), api.ErrKind)
	want(t, "b is no link", s.Linked(0, "b"), false)
}

// 15.3, P15.4: what a name was by itself is not forgotten while it is a link.
func TestLinkedAnewToItself(t *testing.T) {
	s := New()
	c := s.Push()
	want(t, "Link", all(s.Link(0, "y", c, "x"), s.Link(0, "z", c, "x(1)"), s.Link(c, "x", 0, "other"), s.Link(c, "x", 0, "more")), "0 0 0 0")
	for _, word := range []string{"y", "z", "y(1)", "z(1)"} {
		want(t, "Link x to "+word, s.Link(c, "x", 0, word), api.ErrState)
	}
	s.Set(c, "x", "5")
	want(t, "linked as before", all(both(s.Get(0, "more")), s.Kind(0, "y"), s.Link(c, "x", c, "x"), both(s.Get(c, "x"))), "5 0 0 0 5 0")
	s.Set(0, "y", "own")
	want(t, "linked anew, though set by itself", all(s.Link(c, "x", 0, "other"), s.Link(c, "x", 0, "y"), both(s.Get(0, "y"))), "0 9 own 0")
}

// What a later layer needs of links: they go, and what the names were by themselves stays.
func TestUnlink(t *testing.T) {
	s := New()
	room := s.Room("n")
	s.Set(0, "g", "1")
	want(t, "Link", all(s.Link(0, "y", room, "x"), s.Link(room, "x", 0, "g"), s.Link(room, "z", 0, "g"), s.Set(room, "own", "2"), s.Set(0, "y", "3")), "0 0 0 0 0")
	want(t, "Names", s.Names(room, "*"), "[own x z]")
	s.Unlink(room)
	s.Unlink(9)
	want(t, "Unlink", all(s.Names(room, "*"), s.Linked(room, "x"), both(s.Get(room, "x")), both(s.Get(0, "g")), s.Linked(0, "y")), "[own x] false 3 0 1 0 true")
}

// 15.4
func TestTelling(t *testing.T) {
	s := New()
	s.Set(0, "b x", "1 2")
	s.Set(0, "a(z)", "")
	s.Set(0, "a(y)", "q")
	s.Set(0, "empty(1)", "")
	s.Unset(0, "empty(1)")
	c := s.Push()
	s.Link(c, "l", 0, "b x")
	want(t, "Names", s.Names(0, "?*"), "[a b x empty]")
	want(t, "Names", s.Names(0, "[bl]*"), "[b x]")
	want(t, "Names", s.Names(c, "*"), "[l]")
	want(t, "Keys", both(s.Keys(0, "a", "[yz]"))+both(s.Keys(0, "a", "y"))+both(s.Keys(0, "empty", "*")), "[y z] 0[y] 0[] 0")
	want(t, "Keys", both(s.Keys(0, "q", "*"))+both(s.Keys(0, "b x", "*"))+both(s.Keys(0, "a(y)", "*"))+both(s.Keys(0, "a(q)", "*"))+both(s.Keys(c, "l", "*"))+both(s.Keys(c, "l(1)", "*")), "[] 8[] 11[] 11[] 8[] 11[] 11")
	want(t, "Dump", s.Dump(0), "a {a {y q z {}}} {b x} {s {1 2}} empty {a {}}")
	want(t, "Dump", s.Dump(c), "l {s {1 2}}")
}

// What later layers ask of cells.
func TestCells(t *testing.T) {
	s := New()
	c, e := s.Find(0, Parted("a(1)"))
	want(t, "Find", all(e, s.Kind(0, "a"), c.Array() == s.Peek(0, Parted("a")), s.Peek(0, Parted("q")) == nil, len(c.Array().Elements())), "0 0 true true 1")
	s.Set(0, "a(1)", "x")
	s.Unset(0, "a")
	if s.Peek(0, Parted("a(1)")) != c {
		t.Error("the cell stays")
	}
	_, e = s.Find(9, Parted("a"))
	want(t, "Find in no scope", e, api.ErrRange)
	s.Set(0, "b", "1")
	_, e = s.Find(0, Parted("b(1)"))
	want(t, "Find of an element of a scalar", e, api.ErrKind)
	s.Set(0, "a", "scalar")
	want(t, "Array and Divided", all(c.Array() == nil, s.Peek(0, Parted("a")).Divided(), c.Divided(), s.Peek(0, Parted("b")).Divided()), "true false false false")
	s.Unset(0, "a")
	want(t, "Array and Divided", all(c.Array().Divided(), c.Divided()), "true false")
}
