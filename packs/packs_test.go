package packs

import (
	"fmt"
	"math/rand"
	"strings"
	"testing"

	"threadbare/api"
)

func want(t *testing.T, name string, got, want any) {
	t.Helper()
	if fmt.Sprint(got) != fmt.Sprint(want) {
		t.Errorf("%s: %.80v, not %.80v", name, got, want)
	}
}

func both(x any, e api.Errno) string { return fmt.Sprintf("%v %d", x, e) }

// 14.1
func TestVersions(t *testing.T) {
	for _, s := range []string{"0", "1.0", "999999999", "1a0", "1.2b3.4", "0.0.0", strings.Repeat("1.", 19) + "1"} {
		want(t, "Valid "+s, Valid(s), true)
		want(t, "Requirement "+s, Requirement("="+s), true)
	}
	for _, s := range []string{"", "01", "1.", ".1", "1..2", "1a2b3", "1a", "a1", "1234567890", "1.00", "1c2", "-1", "1 ", strings.Repeat("1.", 20) + "1", "1a2a3"} {
		want(t, "Valid "+s, Valid(s), false)
		want(t, "Requirement "+s, Requirement("="+s), false)
		for _, e := range []api.Errno{second(Normal(s)), second(Stable(s)), second(Line(s)), second(Compare("1", s)), second(Compare(s, "1")), second(Meets(s, "")), second(Meets("1", "="+s)), second(Sorted([]string{"1", s})), second(Best([]string{s}, "", true)), second(Best([]string{"1"}, "="+s, true))} {
			want(t, "of no version", e, api.ErrSyntax)
		}
	}
	order := []string{"0", "0.9", "1.2a1", "1.2a1.5", "1.2b1", "1.2b3", "1.2", "1.2.1", "1.9", "1.10", "1.10.1", "2a0", "2b0", "2"}
	for i, a := range order {
		for j, b := range order {
			c := 0
			if i < j {
				c = -1
			} else if i > j {
				c = 1
			}
			want(t, "Compare "+a+" "+b, both(Compare(a, b)), both(c, 0))
		}
	}
	want(t, "Compare", both(Compare("1.2", "1.2.0.0")), "0 0")
	for v, n := range map[string]string{"1.0.0": "1", "0.0": "0", "1.0.2": "1.0.2", "1a0": "1a0", "1a0.0": "1a0", "10.0": "10"} {
		want(t, "Normal "+v, both(Normal(v)), n+" 0")
	}
	want(t, "Stable", both(Stable("1.2.3"))+both(Stable("1b2")), "true 0false 0")
	want(t, "Line", both(Line("12.3")), "12 0")
	for r, l := range map[string][2]string{
		"1.2": {"1.2 1.2.0 1.3 1.99a1", "1.1 2.0 1.2a1 0"}, "1.2-": {"1.2 2.0 1.3a1", "1.1 1.2b9"}, "1.2-2": {"1.2 1.9 2a1 2b5", "2 2.1 1.1"}, "2-1": {"", "1 1.5 2"}, "1.0-1": {"1 1.0.0", "1.0.1 0.9 1a1"}, "=1.0": {"1 1.0", "1.1 1a1"}, "1.2 3-": {"1.5 3 4", "2 1.1"}, "": {"0 1a1", ""}, "1a2": {"1a2 1 1.5", "1a1 2 0"},
	} {
		want(t, "Requirement "+r, Requirement(r), true)
		for i, yes := range []bool{true, false} {
			for _, v := range strings.Fields(l[i]) {
				want(t, "Meets "+v+" "+r, both(Meets(v, r)), both(yes, 0))
			}
		}
	}
	for _, r := range []string{" ", "1  2", " 1", "1 ", "1--", "-1", "==1", "=", "1-2-3", "=1-2", "x"} {
		want(t, "Requirement "+r, Requirement(r), false)
	}
	want(t, "Sorted", both(Sorted([]string{"2", "1.0", "1a1", "1", "1.0.0"})), "[1a1 1.0 1 1.0.0 2] 0")
	l := []string{"1.0", "1", "2a1", "1.5"}
	want(t, "Best", both(Best(l, "", false))+both(Best(l, "", true))+both(Best(l, "=1", true))+both(Best(l, "2a0-2", true)), "2a1 01.5 01.0 02a1 0")
	want(t, "Best", both(Best(l, "3", true)), both("", api.ErrNone))
}

func second[T any](_ T, e api.Errno) api.Errno { return e }

// shelf reads packages: name version, then needs as name:requirement.
func shelf(lines ...string) []api.Pack {
	var l []api.Pack
	for _, line := range lines {
		f := strings.Fields(line)
		l = append(l, api.Pack{Name: f[0], Version: f[1], Needs: needs(f[2:]...)})
	}
	return l
}

func needs(l ...string) []api.Need {
	var r []api.Need
	for _, s := range l {
		name, requirement, _ := strings.Cut(s, "/")
		r = append(r, api.Need{Name: name, Requirement: requirement})
	}
	return r
}

// 14.2
func TestShelf(t *testing.T) {
	good := shelf("a 1 b/2-", "b 1", "b 2.1", "b 3b1 c/1 q/9", "c::x_9 1 q/9")
	want(t, "ValidShelf", ValidShelf(good), true)
	want(t, "ValidShelf", ValidShelf(nil), true)
	many := make([]api.Pack, 101)
	for i := range many {
		many[i] = api.Pack{Name: "a", Version: fmt.Sprint(i)}
	}
	want(t, "ValidShelf", ValidShelf(many[:100]), true)
	eleven := shelf("a 1")
	eleven[0].Needs = needs("a/1", "a/1", "a/1", "a/1", "a/1", "a/1", "a/1", "a/1", "a/1", "a/1", "a/1")
	for _, bad := range [][]api.Pack{many, eleven, shelf("a 1", "a 1.0"), shelf("A 1"), shelf("1a 1"), shelf("a 01"), shelf("a 1 B/1"), shelf("a 1 b/x"), {{Name: "", Version: "1"}}, {{Name: strings.Repeat("a", 41), Version: "1"}}, shelf("_a 1"), shelf("a-b 1")} {
		want(t, "ValidShelf", ValidShelf(bad), false)
		for _, e := range []api.Errno{second(Find(bad, "a", "1", true)), second(Names(bad)), second(Missing(bad)), second(Closed(bad, []int{9, 9})), second(Serves(bad, nil, api.Need{})), second(Choose(bad, nil, true)), second(Order(bad, []int{9, 9}))} {
			want(t, "of no shelf", e, api.ErrInvalid)
		}
	}
	want(t, "Find", both(Find(good, "b", "", false))+both(Find(good, "b", "", true))+both(Find(good, "b", "1", false)), "3 02 01 0")
	want(t, "Find", both(Find(good, "x", "", true))+both(Find(good, "b", "9", true))+both(Find(shelf("A 1"), "b", "x", true)), both(0, api.ErrName)+both(0, api.ErrNone)+both(0, api.ErrSyntax))
	want(t, "Names", both(Names(good)), "[a b c::x_9] 0")
	want(t, "Missing", both(Missing(good)), "[{c 1} {q 9}] 0")
}

// 14.3, 14.4
func TestChoices(t *testing.T) {
	l := shelf("a 1 b/2-", "b 1", "b 2.1", "c 1 c/1 d/1", "d 1 c/1", "e 1 a/1")
	for _, c := range []struct {
		choice []int
		closed string
		order  string
	}{{[]int{0, 2}, "true 0", "[2 0] 0"}, {[]int{0}, "false 0", both([]int{}, api.ErrState)}, {[]int{0, 1}, "false 0", both([]int{}, api.ErrState)}, {nil, "true 0", "[] 0"}, {[]int{1, 2}, both(false, api.ErrRange), both([]int{}, api.ErrRange)}, {[]int{2, 0}, both(false, api.ErrRange), both([]int{}, api.ErrRange)}, {[]int{-1}, both(false, api.ErrRange), both([]int{}, api.ErrRange)}, {[]int{6}, both(false, api.ErrRange), both([]int{}, api.ErrRange)}, {[]int{2, 2}, both(false, api.ErrRange), both([]int{}, api.ErrRange)}, {[]int{0, 2, 3, 4, 5}, "true 0", "[2 0 5 3 4] 0"}} {
		want(t, fmt.Sprint("Closed ", c.choice), both(Closed(l, c.choice)), c.closed)
		want(t, fmt.Sprint("Order ", c.choice), both(Order(l, c.choice)), c.order)
	}
	want(t, "Serves", both(Serves(l, []int{0, 2}, api.Need{Name: "b", Requirement: "2"}))+both(Serves(l, []int{0}, api.Need{Name: "b"}))+both(Serves(l, []int{1}, api.Need{Name: "b", Requirement: "2"})), "true 0false 0false 0")
	want(t, "Serves", both(Serves(l, []int{9}, api.Need{Name: "b", Requirement: "x"}))+both(Serves(l, []int{9}, api.Need{Name: "b"})), both(false, api.ErrInvalid)+both(false, api.ErrRange))
	want(t, "Choose", both(Choose(l, needs("e/1"), true)), "[0 2 5] 0")
	want(t, "Choose", both(Choose(l, needs("b/1", "a/1"), true)), both([]int{}, api.ErrNone))
	want(t, "Choose", both(Choose(l, nil, true)), "[] 0")
	want(t, "Choose", both(Choose(l, needs("c/1"), true)), "[3 4] 0")
	want(t, "Choose", both(Choose(l, needs("x/1"), true)), both([]int{}, api.ErrNone))
	want(t, "Choose", both(Choose(l, needs("x/y"), true)), both([]int{}, api.ErrInvalid))
	want(t, "Choose", both(Choose(l, needs(strings.Fields(strings.Repeat("a/1 ", 11))...), true)), both([]int{}, api.ErrInvalid))
	two := shelf("a 1", "a 2b1", "b 1 a/=1", "b 2 a/2b0-")
	want(t, "Choose", both(Choose(two, needs("a/0-"), true))+both(Choose(two, needs("a/0-"), false)), "[0] 0[1] 0")
	want(t, "Choose by trying", both(Choose(two, needs("a/0-", "b/0-"), true))+both(Choose(two, needs("b/1", "a/0-"), false)), "[0 2] 0[0 2] 0")
	var hard []string
	for i := range 10 {
		for v := range 8 {
			hard = append(hard, fmt.Sprintf("p%d %d p%d/0-", i, v, i+1))
		}
	}
	want(t, "Choose in vain", both(Choose(shelf(hard...), needs("p0/0-"), true)), both([]int{}, api.ErrLimit))
}

// P14.4, held against all choices
func TestChooseAll(t *testing.T) {
	r := rand.New(rand.NewSource(8))
	for range 1500 {
		var lines []string
		for i := range 7 {
			line := fmt.Sprintf("%c %d", 'a'+i/2, i%2+1)
			for range r.Intn(3) {
				line += fmt.Sprintf(" %c/%s", 'a'+r.Intn(4), []string{"1-", "=1", "=2", "2-"}[r.Intn(4)])
			}
			lines = append(lines, line)
		}
		l := shelf(lines...)
		wanted := needs(fmt.Sprintf("%c/1-", 'a'+r.Intn(4)))
		choice, e := Choose(l, wanted, true)
		found := false
		for set := range 1 << len(l) {
			var c []int
			for i := range l {
				if set>>i&1 == 1 {
					c = append(c, i)
				}
			}
			ok, e := Closed(l, c)
			serves, _ := Serves(l, c, wanted[0])
			found = found || e == 0 && ok && serves
		}
		if found != (e == api.OK) {
			t.Fatalf("Choose(%v) = %v, %d", lines, choice, e)
		}
		if found {
			ok, _ := Closed(l, choice)
			serves, _ := Serves(l, choice, wanted[0])
			if !ok || !serves {
				t.Fatalf("Choose(%v) = %v", lines, choice)
			}
		}
	}
}

// 14.4
func TestModule(t *testing.T) {
	for path, c := range map[string][2]string{"a-1.0.tm": {"a", "1.0"}, "a/b-2b1.tm": {"a::b", "2b1"}, "a/b/c_1-0.tm": {"a::b::c_1", "0"}} {
		name, version, e := Module(path)
		want(t, "Module "+path, [3]any{name, version, e}, [3]any{c[0], c[1], 0})
	}
	for _, path := range []string{"", "a.tm", "a-1", "a-x.tm", "-1.tm", "a/-1.tm", "/a-1.tm", "a//b-1.tm", "A-1.tm", "a-b-1.tm", "a/B-1.tm", "1/b-1.tm", strings.Repeat("a", 41) + "-1.tm", "a-1.tm/", "a-.tm"} {
		name, version, e := Module(path)
		want(t, "Module "+path, [3]any{name, version, e}, [3]any{"", "", api.ErrSyntax})
	}
}
