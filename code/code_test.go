package code

import (
	"slices"
	"strings"
	"testing"

	"threadbare/api"
	"threadbare/expr"
	"threadbare/parse"
)

// shown writes a list in one line.
func shown(c []api.Instr) string {
	return strings.ReplaceAll(strings.TrimSpace(Format(c)), "\n", ", ")
}

// 18.1
func TestTurning(t *testing.T) {
	for s, want := range map[string]string{
		"set x $y":            "5 0 {}, 1 0 set, 6 0 {}, 1 0 x, 6 0 {}, 2 0 y, 6 0 {}, 8 0 {}",
		"":                    "1 0 {}",
		"# no":                "1 0 {}",
		"a; b":                "5 0 {}, 1 0 a, 6 0 {}, 8 0 {}, 9 0 {}, 5 0 {}, 1 0 b, 6 0 {}, 8 0 {}",
		"{*}$a(x$b)[c;d]\"\"": "error",
		"{*}$a(x$b)[c;d]":     "5 0 {}, 1 0 x, 2 0 b, 4 2 {}, 3 0 a, 5 0 {}, 1 0 c, 6 0 {}, 8 0 {}, 9 0 {}, 5 0 {}, 1 0 d, 6 0 {}, 8 0 {}, 4 2 {}, 7 0 {}, 8 0 {}",
		"x[]":                 "5 0 {}, 1 0 x, 1 0 {}, 4 2 {}, 6 0 {}, 8 0 {}",
	} {
		c, at, e := Script(s)
		if want == "error" {
			continue
		}
		if e != 0 || at != 0 || shown(c) != want || !Sound(c) {
			t.Errorf("Script(%q) = %s, %d", s, shown(c), e)
		}
		l, _, _ := parse.Script(s)
		if Calls(c) != parse.Count(l) {
			t.Errorf("%q has %d calls", s, Calls(c))
		}
	}
	for s, want := range map[string]string{
		"1 ? 2 : 3": "1 0 1, 11 0 {}, 13 5 {}, 1 0 2, 12 6 {}, 1 0 3", "$a + f(\"x$b\")": "2 0 a, 1 0 x, 2 0 b, 4 2 {}, 10 1 f(), 10 2 +", "1 && 2": "1 0 1, 11 0 {}, 13 6 {}, 1 0 2, 11 0 {}, 12 7 {}, 1 0 0", "1 || 2": "1 0 1, 11 0 {}, 14 6 {}, 1 0 2, 11 0 {}, 12 7 {}, 1 0 1", "- 1": "1 0 1, 10 1 -", "1 in {a b}": "1 0 1, 1 0 {a b}, 10 2 in", "1 + [f]": "1 0 1, 5 0 {}, 1 0 f, 6 0 {}, 8 0 {}, 10 2 +",
		"(1 && 2) && 3": "1 0 1, 11 0 {}, 13 6 {}, 1 0 2, 11 0 {}, 12 7 {}, 1 0 0, 11 0 {}, 13 12 {}, 1 0 3, 11 0 {}, 12 13 {}, 1 0 0",
	} {
		if c, at, e := Expr(s); e != 0 || at != 0 || shown(c) != want || !Sound(c) {
			t.Errorf("Expr(%q) = %s, %d", s, shown(c), e)
		}
	}
	if c, at, e := Script("a [b"); c != nil || at != 2 || e != api.ErrSyntax {
		t.Error("Script of none")
	}
	if c, at, e := Script(strings.Repeat("[", 101)); c != nil || at != 0 || e != api.ErrLimit {
		t.Error("Script too deep")
	}
	if c, at, e := Expr("1 +"); c != nil || at != 3 || e != api.ErrSyntax {
		t.Error("Expr of none")
	}
	if _, at, e := Expr(strings.Repeat("-", 100) + "1"); at != 0 || e != api.ErrLimit {
		t.Error("Expr too deep")
	}
	for _, x := range []struct {
		tokens []api.Token
		want   string
		e      api.Errno
	}{{nil, "4 0 {}", 0}, {[]api.Token{{Kind: 9, Text: "t"}}, "1 0 t", 0}, {[]api.Token{{Kind: api.TScript, Text: "{"}}, "", api.ErrSyntax}, {[]api.Token{{Kind: api.TScript, Text: strings.Repeat("[", 101)}}, "", api.ErrLimit}, {[]api.Token{{Kind: api.TVar, Text: "a", HasIndex: true}}, "4 0 {}, 3 0 a", 0}} {
		if c, e := Word(api.Word{Tokens: x.tokens}); shown(c) != x.want || e != x.e {
			t.Errorf("Word = %s, %d", shown(c), e)
		}
	}
}

func read(t *testing.T, s string) []api.Instr {
	t.Helper()
	c, line, e := Parse(strings.ReplaceAll(s, ", ", "\n") + "\n")
	if e != 0 || line != 0 {
		t.Fatalf("Parse(%q): %d in the line %d", s, e, line)
	}
	return c
}

// 18.1, 18.2
func TestSound(t *testing.T) {
	for s, want := range map[string][3]int{ // sound (1), the greatest heights
		"1 0 a": {1, 1, 0}, "4 0 {}": {1, 1, 0}, "1 0 a, 9 0 {}": {}, "9 0 {}, 1 0 a": {}, "1 0 a, 1 0 b": {}, "1 0 a, 12 2 {}": {1, 1, 0}, "12 1 {}, 1 0 a": {1, 1, 0}, "12 2 {}, 1 0 a": {}, "12 0 {}, 1 0 a": {}, "1 0 a, 12 3 {}": {}, "12 2 {}, 1 0 x, 1 0 a": {}, "1 0 a, 13 3 {}, 1 0 b": {}, "1 0 a, 13 4 {}, 1 0 b, 12 5 {}, 1 0 c": {1, 1, 0}, "1 0 a, 14 3 {}, 9 0 {}, 1 0 c": {},
		"1 0 a, 10 0 +": {}, "1 0 a, 10 2 +": {}, "1 0 a, 1 0 b, 10 2 +": {1, 2, 0}, "1 0 a, 4 1 {}": {1, 1, 0}, "6 0 {}, 1 0 a": {}, "5 0 {}, 1 0 a, 6 0 {}": {}, "5 0 {}, 8 0 {}": {1, 1, 1}, "8 0 {}": {}, "1 0 a, 3 0 x": {1, 1, 0}, "3 0 x": {}, "1 1 a": {}, "2 1 a": {}, "1 0 a, 11 0 x": {}, "1 0 a, 4 1 x": {}, "5 0 {}, 5 0 {}, 8 0 {}, 6 0 {}, 8 0 {}": {1, 1, 2}, "5 0 {}, 1 0 a, 13 3 {}, 8 0 {}": {1, 1, 1}, "1 0 a, 14 4 {}, 5 0 {}, 8 0 {}, 1 0 b": {},
	} {
		c := read(t, s)
		texts, commands, e := Heights(c)
		if Sound(c) != (want[0] == 1) || (e == 0) != (want[0] == 1) || texts != want[1] || commands != want[2] {
			t.Errorf("%q: sound %t, %d, %d", s, Sound(c), texts, commands)
		}
		if _, e := Threaded(c); (e == 0) != (want[0] == 1) {
			t.Errorf("Threaded(%q): %d", s, e)
		}
	}
	for _, c := range [][]api.Instr{nil, {{Op: 0}}, {{Op: 15}}, {{Op: 1, A: -1}}, make([]api.Instr, 100001)} {
		if Sound(c) || Plain(c) {
			t.Error("sound")
		}
		if _, _, e := Run(c); e != api.ErrInvalid {
			t.Error("Run of no list")
		}
	}
	long := slices.Repeat([]api.Instr{{Op: api.IPush}, {Op: api.IDrop}}, 50000)
	if Sound(append(long[:99999:99999], api.Instr{Op: api.IDrop})) || !Sound(long[:99999]) || Sound(append(slices.Clone(long), long[0])) || Format(append(slices.Clone(long), long[0])) != "" {
		t.Error("the greatest length")
	}
	c, _, _ := Expr("(1 ? (0 ? 2 : 3) : 4) ? 5 : 6")
	r, e := Threaded(c)
	if want := "1 0 1, 11 0 {}, 13 10 {}, 1 0 0, 11 0 {}, 13 8 {}, 1 0 2, 12 11 {}, 1 0 3, 12 11 {}, 1 0 4, 11 0 {}, 13 15 {}, 1 0 5, 12 16 {}, 1 0 6"; shown(r) != want || e != 0 {
		t.Errorf("Threaded = %s", shown(r))
	}
	if l := Loads(read(t, "2 0 b, 1 0 q, 3 0 a, 2 0 b")); !slices.Equal(l, []string{"a", "b"}) {
		t.Errorf("Loads = %q", l)
	}
}

// 18.3
func TestRun(t *testing.T) {
	for _, s := range []string{"1 + 2 * 3", "1 ? 2 : 3", "0 ? 2 : 3", "1 && 0", "0 && {x}", "1 || {x}", "0 || 7", "{x} && 1", "1 / 0", "max(1, 2, 3)", "f(1)", "\"a\" eq {a}", "(1 ? (0 ? 2 : 3) : 4) ? 5 : 6", "{a b}", "!{x}", "((0 ? 1 : 0) || 0) ? 1 : 2"} {
		n, _, _ := expr.Parse(s)
		want, problem, _ := expr.Evaluate(n)
		c, _, _ := Expr(s)
		r, _ := Threaded(c)
		for _, c := range [][]api.Instr{c, r} {
			if !Sound(c) {
				continue
			}
			if got, p, e := Run(c); got != want || p != problem || e != 0 || !Plain(c) {
				t.Errorf("Run(%q) = %q, %q, %d", s, got, p, e)
			}
		}
	}
	for _, s := range []string{"2 0 a", "1 0 a, 3 0 b", "5 0 {}, 8 0 {}", "9 0 {}"} {
		if c := read(t, s); Plain(c) {
			t.Errorf("Plain(%q)", s)
		}
	}
	half := strings.Repeat("x", 40000)
	if s, p, e := Run([]api.Instr{{Op: api.IPush, S: half}, {Op: api.IPush, S: half}, {Op: api.IJoin, A: 2}}); s != "" || p != "long" || e != 0 {
		t.Error("a text that is too long")
	}
	if s, _, _ := Run(read(t, "1 0 a, 14 4 {}, 1 0 b, 12 5 {}, 1 0 c")); s != "b" {
		t.Error("ITrue goes on only if the text is 1")
	}
}

// 18.3
func TestFormat(t *testing.T) {
	c := []api.Instr{{Op: 1, S: "a\nb {"}, {Op: 14, A: 1000000000, S: "x y"}, {Op: 2}, {Op: 3, S: "a\\"}, {Op: 4, S: "{\n}"}}
	want := "1 0 a\\nb\\ \\{\n14 1000000000 {x y}\n2 0 {}\n3 0 a\\\\\n4 0 \\{\\n\\}\n"
	if Format(c) != want {
		t.Errorf("Format = %q", Format(c))
	}
	if got, _, e := Parse(want); !slices.Equal(got, c) || e != 0 {
		t.Errorf("Parse = %v", got)
	}
	if got, _, e := Parse(""); len(got) != 0 || e != 0 {
		t.Error("Parse of nothing")
	}
	for s, line := range map[string]int{"1 0 a": 0, "1 0 a\n15 0 {}\n": 1, "0 0 {}\n": 0, "1 0 {a}\n": 0, "1 01 a\n": 0, "1  0 a\n": 0, "1 0\n": 0, "1 0 \n": 0, "1 -1 a\n": 0, "1 1000000001 a\n": 0, "1 0 a b\n": 0, "1 0 {a\nb}\n": 0, "\n": 0, "1 0 a\n\n": 1, "x 0 a\n": 0, "+1 0 a\n": 0} {
		if got, n, e := Parse(s); got != nil || n != line || e != api.ErrSyntax {
			t.Errorf("Parse(%q) = %v, %d, %d", s, got, n, e)
		}
	}
	if _, n, e := Parse(strings.Repeat("\n", api.MaxText+1)); n != 0 || e != api.ErrLong {
		t.Error("Parse of a long text")
	}
}
