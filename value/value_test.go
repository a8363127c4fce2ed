package value

import (
	"slices"
	"strings"
	"testing"

	"threadbare/api"
)

func many(n int) string { return strings.Repeat("a ", n) }

func hasFace(t *testing.T, name string, v *Value, want int) {
	t.Helper()
	if v.Face() != want {
		t.Errorf("%s: the face %d, not %d", name, v.Face(), want)
	}
}

// 5.1
func TestFaces(t *testing.T) {
	v := New(" 1  2 ")
	hasFace(t, "new", v, api.FText)
	if l, e := v.List(); e != 0 || !slices.Equal(l, []string{"1", "2"}) {
		t.Errorf("List = %q, %d", l, e)
	}
	hasFace(t, "list", v, api.FList)
	if _, e := v.Number(); e != api.ErrSyntax {
		t.Error("Number of a list")
	}
	hasFace(t, "after an error", v, api.FList)
	if l, e := v.Pairs(); e != 0 || !slices.Equal(l, []string{"1", "2"}) {
		t.Error("Pairs")
	}
	hasFace(t, "pairs", v, api.FDict)
	if v.Text() != " 1  2 " {
		t.Error("the text changed")
	}
	hasFace(t, "text", v, api.FDict)
	n := New(" 0x10")
	if s, e := n.Number(); s != "16" || e != 0 || n.Text() != " 0x10" {
		t.Error("Number")
	}
	hasFace(t, "number", n, api.FNumber)
	if l, e := n.List(); e != 0 || l[0] != "0x10" {
		t.Error("List of a number")
	}
	if s, e := n.Number(); s != "16" || e != 0 {
		t.Error("Number again")
	}
	l, _ := v.List()
	l[0] = "changed"
	if m, _ := v.List(); m[0] != "1" {
		t.Error("a result is shared")
	}
	given := []string{"a b", ""}
	o, e := OfList(given)
	given[0] = "changed"
	hasFace(t, "OfList", o, api.FList)
	if e != 0 || o.Text() != "{a b} {}" {
		t.Error("OfList")
	}
	hasFace(t, "OfList's text", o, api.FList)
	if _, e := OfList(make([]string, 10001)); e != api.ErrLimit {
		t.Error("OfList of many")
	}
	o, e = OfNumber(" +0x1f")
	hasFace(t, "OfNumber", o, api.FNumber)
	if e != 0 || o.Text() != "31" {
		t.Error("OfNumber")
	}
	for s, want := range map[string]api.Errno{"x": api.ErrSyntax, strings.Repeat("9", 601): api.ErrLimit} {
		if o, e := OfNumber(s); o != nil || e != want {
			t.Error("OfNumber of none")
		}
		if _, e := New(s).Number(); e != want {
			t.Error("Number of none")
		}
	}
	for s, want := range map[string]api.Errno{"{": api.ErrSyntax, many(10001): api.ErrLimit} {
		if _, e := New(s).List(); e != want {
			t.Error("List of none")
		}
		if _, e := New(s).Pairs(); e != api.ErrKind {
			t.Error("Pairs of none")
		}
	}
}

// 5.1
func TestTruth(t *testing.T) {
	for s, want := range map[string]bool{"true": true, "yes": true, "on": true, " 7 ": true, "-1": true, "false": false, "no": false, "off": false, "0x0": false, " -0": false} {
		v := New(s)
		if got, e := v.Truth(); got != want || e != 0 {
			t.Errorf("Truth of %q = %t, %d", s, got, e)
		}
		want := api.FNumber
		if len(strings.Trim(s, "aeflnorstuy")) == 0 {
			want = api.FText
		}
		hasFace(t, "Truth of "+s, v, want)
	}
	for _, s := range []string{"", "True", "yes ", "1.0", "t", strings.Repeat("9", 601)} {
		if got, e := New(s).Truth(); got || e != api.ErrSyntax {
			t.Errorf("Truth of %.9q = %t, %d", s, got, e)
		}
	}
	var none *Value
	if none.Text() != "" || none.Face() != 0 {
		t.Error("a nil value")
	}
	if l, e := none.List(); len(l) != 0 || e != 0 {
		t.Error("a nil value's list")
	}
	if _, e := none.Number(); e != api.ErrSyntax {
		t.Error("a nil value's number")
	}
	if _, e := none.Truth(); e != api.ErrSyntax {
		t.Error("a nil value's truth")
	}
	if _, e := none.Pairs(); e != 0 {
		t.Error("a nil value's pairs")
	}
	var zero Value
	if _, e := zero.List(); e != 0 || zero.Text() != "" || zero.Face() != api.FList {
		t.Error("a zero value")
	}
}

func tells(t *testing.T, s *Store, h int, text string, face int) {
	t.Helper()
	got, e := s.Text(h)
	f, e2 := s.Face(h)
	if got != text || f != face || e != 0 || e2 != 0 {
		t.Errorf("the handle %d: %q, face %d, not %q, face %d", h, got, f, text, face)
	}
}

// 5.2
func TestStore(t *testing.T) {
	s := NewStore()
	a := s.Add("1 2")
	b, _ := s.Make([]string{"x y"})
	c, e := s.Copy(a)
	if a != 0 || b != 1 || c != 2 || e != 0 {
		t.Fatal("handles")
	}
	tells(t, s, a, "1 2", 0)
	tells(t, s, b, "{x y}", 1)
	if s.Ask(c, 1) != 0 {
		t.Error("Ask")
	}
	tells(t, s, a, "1 2", 0)
	tells(t, s, c, "1 2", 1)
	if s.Ask(c, 2) != api.ErrSyntax || s.Ask(c, 3) != 0 || s.Ask(c, 4) != api.ErrRange || s.Ask(c, -1) != api.ErrRange || s.Ask(9, 9) != api.ErrName {
		t.Error("Ask")
	}
	tells(t, s, c, "1 2", 3)
	s.Ask(c, 0)
	tells(t, s, c, "1 2", 0)
	if x, e := s.Element(c, 1); x != "2" || e != 0 {
		t.Error("Element")
	}
	tells(t, s, c, "1 2", 1)
	s.Ask(c, 0)
	if _, e := s.Element(c, 2); e != api.ErrRange {
		t.Error("Element beyond")
	}
	tells(t, s, c, "1 2", 1)
	if _, e := s.Element(c, -1); e != api.ErrRange {
		t.Error("Element before")
	}
	if _, e := s.Make(make([]string, 10001)); e != api.ErrLimit {
		t.Error("Make of many")
	}
	s.Forget()
	for h, text := range []string{"1 2", "{x y}", "1 2"} {
		tells(t, s, h, text, 0)
	}
	var none *Store
	none.Forget()
	for _, s := range []*Store{s, none} {
		_, e1 := s.Copy(3)
		_, e2 := s.Text(-1)
		_, e3 := s.Face(3)
		_, e4 := s.Element(3, 0)
		for _, e := range []api.Errno{e1, e2, e3, e4, s.Ask(3, 1), s.Append(3, ""), s.Put(3, 0, ""), s.Enter(3, "", "")} {
			if e != api.ErrName {
				t.Errorf("no such handle: %d", e)
			}
		}
	}
}

// 5.3
func TestChanges(t *testing.T) {
	s := NewStore()
	a := s.Add("a  1")
	b, _ := s.Copy(a)
	c, _ := s.Copy(b)
	d, _ := s.Copy(b)
	if s.Append(a, " c") != 0 || s.Put(b, 1, "x y") != 0 || s.Enter(c, "b", "2") != 0 {
		t.Error("changes")
	}
	tells(t, s, a, "a  1 c", 0)
	tells(t, s, b, "a {x y}", 1)
	tells(t, s, c, "a 1 b 2", 3)
	tells(t, s, d, "a  1", 0)
	s.Enter(c, "a", "3")
	tells(t, s, c, "a 3 b 2", 3)
	if s.Put(a, 3, "") != api.ErrRange || s.Put(a, -1, "") != api.ErrRange || s.Enter(a, "", "") != api.ErrKind {
		t.Error("changes that are refused")
	}
	tells(t, s, a, "a  1 c", 1)
	s.Append(a, "{")
	tells(t, s, a, "a  1 c{", 0)
	w := s.Add("{")
	if s.Put(w, 9, "") != api.ErrSyntax {
		t.Error("Put in no list")
	}
	long := strings.Repeat("x", api.MaxText)
	if s.Put(b, 0, long) != api.ErrLong || s.Enter(c, "a", long) != api.ErrLong || s.Append(b, long) != api.ErrLong {
		t.Error("ErrLong")
	}
	tells(t, s, b, "a {x y}", 1)
	tells(t, s, c, "a 3 b 2", 3)
	var l []string
	for i := range 10000 {
		l = append(l, string(rune('a'+i/2%26))+string(rune('a'+i/52%26))+string(rune('a'+i/1352)))
	}
	full, _ := s.Make(l)
	if s.Enter(full, "new", "") != api.ErrLimit {
		t.Error("Enter beyond the limit")
	}
	if f, _ := s.Face(full); f != 3 {
		t.Error("the face that was made stays")
	}
	if s.Put(full, 0, "") != 0 {
		t.Error("Put in a full list")
	}
}
