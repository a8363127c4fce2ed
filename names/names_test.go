package names

import (
	"fmt"
	"strings"
	"testing"

	"threadbare/api"
)

func want(t *testing.T, name string, got, want any) {
	t.Helper()
	if fmt.Sprint(got) != fmt.Sprint(want) {
		t.Errorf("%s: %v, not %v", name, got, want)
	}
}

func both(x any, e api.Errno) string { return fmt.Sprintf("%v %d", x, e) }

// 16.1
func TestPaths(t *testing.T) {
	for path, c := range map[string][5]string{ // parts, absolute, canonical in ::n, head, tail
		"": {"", "false", "::n", "::", ""}, "::": {"", "true", "::", "::", ""}, "a": {"a", "false", "::n::a", "::", "a"}, "::a": {"a", "true", "::a", "::", "a"}, "a::b": {"a|b", "false", "::n::a::b", "::a", "b"}, "b:::c": {"b|c", "false", "::n::b::c", "::b", "c"}, ":::a::::b": {"a|b", "true", "::a::b", "::a", "b"}, "a::": {"a", "false", "::n::a", "::a", ""}, "a:b": {"a:b", "false", "::n::a:b", "::", "a:b"}, ":a": {"a", "false", "::n::a", "::", ":a"}, "a:": {"a", "false", "::n::a", "::", "a:"}, ":": {"", "false", "::n", "::", ":"}, ":a::b:": {"a|b", "false", "::n::a::b", "::a", "b:"}, "a b::$": {"a b|$", "false", "::n::a b::$", "::a b", "$"}, "::a:b::c": {"a:b|c", "true", "::a:b::c", "::a:b", "c"}, ":::": {"", "true", "::", "::", ""}, "a:::": {"a", "false", "::n::a", "::a", ""},
	} {
		got := [5]string{strings.Join(Parts(path), "|"), fmt.Sprint(Absolute(path)), Canonical("n", path), Head(path), Tail(path)}
		if got != c {
			t.Errorf("%q: %q, not %q", path, got, c)
		}
		canonical := Canonical("::n", path)
		want(t, "Canonical again", Canonical("::other", canonical), canonical)
	}
	want(t, "Canonical", Canonical("a:::", "b:::c"), "::a::b::c")
}

// 16.2
func TestTree(t *testing.T) {
	tree := New()
	want(t, "All", tree.All(), "[::]")
	for _, p := range []string{"a::b::c", "::a::b", "a:::d", "ab", "::", "a b"} {
		want(t, "Make", tree.Make(p), api.OK)
	}
	want(t, "All", tree.All(), "[:: ::a ::a b ::a::b ::a::b::c ::a::d ::ab]")
	want(t, "Exists", fmt.Sprint(tree.Exists("a::b"), tree.Exists("b"), tree.Exists("")), "true false true")
	want(t, "Children", both(tree.Children("::", "a*"))+both(tree.Children("a", "[bd]"))+both(tree.Children("a", "c"))+both(tree.Children("x", "*")), "[::a ::a b ::ab] 0[::a::b ::a::d] 0[] 0[] 8")
	want(t, "Delete", both(tree.Delete("a::b"))+both(tree.Delete("a::b")), "[::a::b ::a::b::c] 0[] 8")
	tree.SetUnknown("::", "u")
	tree.Export("::", []string{"x"}, false)
	tree.SetSearch("::", []string{"ab"})
	want(t, "Delete", both(tree.Delete("::")), "[::a ::a b ::a::d ::ab] 0")
	want(t, "as at first", fmt.Sprint(tree.All())+both(tree.Unknown("::"))+both(tree.Patterns("::"))+both(tree.Search("::")), "[::] 0[] 0[] 0")
	var none *Tree
	_, e1 := none.Delete("::")
	_, e2 := none.Children("::", "*")
	_, e3 := none.Search("::")
	_, e4 := none.Patterns("::")
	_, e5 := none.Candidates("::", "x")
	_, e6 := none.Unknown("::")
	for _, e := range []api.Errno{e1, e2, e3, e4, e5, e6, none.Make("a"), none.SetSearch("::", nil), none.Export("::", nil, true), none.SetUnknown("::", "")} {
		want(t, "a nil tree", e, api.ErrNone)
	}
	want(t, "a nil tree", fmt.Sprint(none.Exists("::"), none.Exports("::", "x"), none.All()), "false false []")
}

// 16.3
func TestAsked(t *testing.T) {
	tree := New()
	tree.Make("a")
	tree.Make("b::c")
	want(t, "SetSearch", tree.SetSearch("a", []string{"b:::c", "::", "b"}), api.OK)
	want(t, "SetSearch", fmt.Sprint(tree.SetSearch("a", []string{"b", "x"}), tree.SetSearch("x", nil)), "8 8")
	l, _ := tree.Search("a")
	l[0] = "changed"
	want(t, "Search", both(tree.Search("a"))+both(tree.Search("x")), "[::b::c :: ::b] 0[] 8")
	tree.Export("a", []string{"f*", "g", "f*"}, false)
	tree.Export("a", []string{"g", "h"}, false)
	want(t, "Patterns", both(tree.Patterns("a")), "[f* g h] 0")
	want(t, "Exports", fmt.Sprint(tree.Exports("a", "foo"), tree.Exports("a", "x"), tree.Exports("x", "foo")), "true false false")
	tree.Export("a", []string{"x"}, true)
	want(t, "Patterns", both(tree.Patterns("a"))+both(tree.Patterns("x")), "[x] 0[] 8")
	want(t, "Export", tree.Export("x", nil, false), api.ErrNone)
	want(t, "SetUnknown", fmt.Sprint(tree.SetUnknown("a", "u"), tree.SetUnknown("x", "u")), "0 8")
	want(t, "Unknown", both(tree.Unknown("a"))+both(tree.Unknown("b"))+both(tree.Unknown("x")), "u 0 0 8")
}

// 16.4
func TestCandidates(t *testing.T) {
	tree := New()
	tree.Make("a")
	tree.Make("b")
	tree.Make("gone")
	tree.SetSearch("a", []string{"b", "gone", "a"})
	tree.Delete("gone")
	for name, l := range map[string]string{"f": "[::a::f ::b::f ::f]", "::f": "[::f]", "x::f": "[::a::x::f ::b::x::f ::x::f]", "f::": "[::a::f ::b::f ::f]", "": "[::a ::b ::]"} {
		want(t, "Candidates "+name, both(tree.Candidates("a", name)), l+" 0")
	}
	want(t, "Candidates in ::", both(tree.Candidates("::", "f")), "[::f] 0")
	want(t, "Candidates in none", both(tree.Candidates("x", "f"))+both(tree.Candidates("x", "::f")), "[] 8[] 8")
}
