package table

import (
	"fmt"
	"testing"

	"threadbare/api"
)

func want(t *testing.T, name string, got, want any) {
	t.Helper()
	if fmt.Sprint(got) != fmt.Sprint(want) {
		t.Errorf("%s: %v, not %v", name, got, want)
	}
}

func all(l ...any) string { return fmt.Sprintln(l...) }

func told(l ...any) string { return fmt.Sprintln(l...) }

func three[A, B, C any](a A, b B, c C) string { return fmt.Sprintln(a, b, c) }

func two[A, B any](a A, b B) string { return fmt.Sprintln(a, b) }

// 17.1
func TestDefine(t *testing.T) {
	s := New()
	want(t, "Define", two(s.Define("f")), told(1, []int{}))
	want(t, "Import", three(s.Import("g", 1)), told(2, []int{}, 0))
	want(t, "Import", three(s.Import("h", 2)), told(3, []int{}, 0))
	want(t, "Find", all(s.Find("f"), s.Find("h"), s.Find("x"), s.FindHidden("f")), told(1, 3, 0, 0))
	want(t, "Name", three(s.Name(2))+three(s.Name(9)), told("g", false, true)+told("", false, false))
	want(t, "Import of what is not there", three(s.Import("f", 9))+three(s.Import("f", 0)), told(0, []int{}, api.ErrNone)+told(0, []int{}, api.ErrNone))
	want(t, "Import of itself", three(s.Import("f", 1))+three(s.Import("f", 3))+three(s.Import("g", 3)), told(0, []int{}, api.ErrState)+told(0, []int{}, api.ErrState)+told(0, []int{}, api.ErrState))
	want(t, "Epoch", s.Epoch(), 3)
	want(t, "Import in a place", three(s.Import("h", 1)), told(4, []int{3}, 0))
	want(t, "Imports", all(s.Imports(1), s.Imports(2), s.Imports(9)), told([]int{2, 4}, []int{}, []int{}))
	want(t, "Define again", two(s.Define("f")), told(5, []int{1, 2, 4}))
	want(t, "what is gone", all(s.Find("g"), s.Find("h"), s.Find("f"), s.Count(), s.Epoch()), told(0, 0, 5, 1, 5))
	want(t, "Origin of what is gone", two(s.Origin(2)), told(0, api.ErrNone))
	want(t, "an empty name", two(s.Define("")), told(6, []int{}))
}

// 17.2, 17.3
func TestChange(t *testing.T) {
	s := New()
	s.Define("f")
	s.Import("g", 1)
	s.Import("i", 2)
	want(t, "Rename", all(s.Rename("f", "h"), s.Find("h"), s.Find("f")), told(0, 1, 0))
	want(t, "Origin", two(s.Origin(3))+two(s.Origin(1)), told(1, 0)+told(1, 0))
	want(t, "Rename", all(s.Rename("f", "x"), s.Rename("h", "g"), s.Rename("h", "h")), told(api.ErrNone, api.ErrDuplicate, api.ErrDuplicate))
	want(t, "Hide", all(s.Hide("g", "secret"), s.Find("g"), s.FindHidden("secret")), told(0, 0, 2))
	want(t, "Name", three(s.Name(2)), told("secret", true, true))
	want(t, "Hide", all(s.Hide("g", "x"), s.Hide("h", "secret")), told(api.ErrNone, api.ErrDuplicate))
	want(t, "a hidden one is an origin", all(s.Imports(2))+two(s.Origin(3)), told([]int{3})+told(1, 0))
	want(t, "Names", all(s.Names("*"), s.Hidden("*"), s.Names("h*"), s.Hidden("x")), told([]string{"h", "i"}, []string{"secret"}, []string{"h"}, []string{}))
	want(t, "Delete of a hidden name", two(s.Delete("secret")), told([]int{}, api.ErrNone))
	want(t, "Expose", all(s.Expose("secret", "h"), s.Expose("x", "q"), s.Expose("secret", "q"), s.Find("q")), told(api.ErrDuplicate, api.ErrNone, 0, 2))
	want(t, "Epoch", all(s.Epoch(), s.Count()), told(6, 3))
	want(t, "Delete", two(s.Delete("q")), told([]int{2, 3}, 0))
	want(t, "Imports", all(s.Imports(1), s.Epoch(), s.Count()), told([]int{}, 7, 1))
	want(t, "Delete", two(s.Delete("q")), told([]int{}, api.ErrNone))
	s.Import("a", 1)
	s.Hide("a", "a")
	want(t, "a hidden import goes, too", two(s.Delete("h")), told([]int{1, 4}, 0))
	want(t, "FindHidden", s.FindHidden("a"), 0)
	var none *Table
	want(t, "a nil table", two(none.Define("x"))+three(none.Import("x", 1))+two(none.Delete("x"))+two(none.Origin(1)), told(0, []int{})+told(0, []int{}, 8)+told([]int{}, 8)+told(0, 8))
	want(t, "a nil table", all(none.Find("x"), none.FindHidden("x"), none.Rename("x", "y"), none.Hide("x", "y"), none.Expose("x", "y"), none.Imports(1), none.Names("*"), none.Hidden("*"), none.Epoch(), none.Count()), told(0, 0, 8, 8, 8, []int{}, []int{}, []int{}, 0, 0))
}
