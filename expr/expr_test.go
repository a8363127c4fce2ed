package expr

import (
	"slices"
	"strings"
	"testing"

	"threadbare/api"
)

func nines(n int) string { return strings.Repeat("9", n) }

// 9.1
func TestParse(t *testing.T) {
	for s, want := range map[string]string{
		"1 + 2 * 3": "(1 + (2 * 3))", "1-2-3": "((1 - 2) - 3)", "2 ** 3 ** 2": "(2 ** (3 ** 2))", "- 2 ** 2": "((- 2) ** 2)", "2 ** -1": "(2 ** (- 1))", "- - 2": "(- (- 2))", "!!$x": "(! (! $x))", "a(1)": "a(1)", "f(1 , $a(b c),(2))": "f(1, $a(b c), 2)", "abs (1)": "abs(1)",
		"1 ? 2 : 3 ? 4 : 5": "(1 ? 2 : (3 ? 4 : 5))", "1 ? 2 ? 3 : 4 : 5": "(1 ? (2 ? 3 : 4) : 5)", "1||2&&3|4^5&6 eq 7==8<9<<1+2*3**4": "(1 || (2 && (3 | (4 ^ (5 & (6 eq (7 == (8 < (9 << (1 + (2 * (3 ** 4))))))))))))", "1 in 2 ni 3 ne 4": "(((1 in 2) ni 3) ne 4)", "1 >= 2 <= 3 > 4 != 5": "((((1 >= 2) <= 3) > 4) != 5)", "1 >> 2 % 3 / 4": "(1 >> ((2 % 3) / 4))",
		"[f {]} x]eq\"a b\"": "([f {]} x] eq \"a b\")", "{a}b": "", "true&&no": "(true && no)", "${a b} + \"$x\"": "(${a b} + \"$x\")", "((1))": "1", " \n1\t": "1", "0x1F+0b1": "(0x1F + 0b1)", "~1": "(~ 1)", "+ 1": "(+ 1)", "on ? yes : off": "(on ? yes : off)", "true(1)": "true(1)", "_a1(2)": "_a1(2)", "{a} in {b c}": "({a} in {b c})", "1<-2": "(1 < (- 2))",
	} {
		n, at, e := Parse(s)
		if want == "" {
			if e != api.ErrSyntax {
				t.Errorf("Parse(%q): %d", s, e)
			}
			continue
		}
		if e != 0 || at != 0 || Show(n) != want {
			t.Errorf("Parse(%q) = %q, %d at %d, not %q", s, Show(n), e, at, want)
		}
		if m, _, _ := Parse(want); !Same(n, m) {
			t.Errorf("what is shown of %q is another node", s)
		}
	}
	deep := func(n int) string { return strings.Repeat("-", n) + "1" }
	for s, at := range map[string]int{"": 0, "  ": 2, "1 +": 3, "1 2": 2, "1 = 2": 2, "foo + 1": 0, "1 + foo": 4, "1eqx": 0, "1 eqx 2": 2, "12ab": 0, "0x": 0, "1.5": 1, "1_0": 1, "(1": 2, "1)": 1, "f(": 2, "f()": 2, "f(1,": 4, "f(1": 3, "1 ? 2": 5, "1 ? 2 3": 6, "\"a": 0, "1 + {a": 4, "[f": 0, "$": 0, "1 *** 2": 4, "1 & & 2": 4, "@": 0, "1 ! 2": 2, "trueX": 0, nines(601): 0, "$a(b": 0, "1 eq": 4, ": 1": 0, "f(1)g": 4} {
		n, got, e := Parse(s)
		if e != api.ErrSyntax || got != at || n.Kind != 0 {
			t.Errorf("Parse(%.20q) = %d at %d, not at %d", s, e, got, at)
		}
	}
	for _, s := range []string{deep(100), strings.Repeat("1+", 100) + "1", strings.Repeat("1**", 100) + "1", strings.Repeat("[", 101) + strings.Repeat("]", 101), "1 + \"" + strings.Repeat("[", 101)} {
		if _, at, e := Parse(s); e != api.ErrLimit || at != 0 {
			t.Errorf("Parse(%.20q) = %d at %d", s, e, at)
		}
	}
	for _, s := range []string{deep(99), strings.Repeat("1+", 99) + "1", strings.Repeat("(", 5000) + "1" + strings.Repeat(")", 5000)} {
		if _, _, e := Parse(s); e != 0 {
			t.Errorf("Parse(%.20q) = %d", s, e)
		}
	}
	if Show(api.Node{}) != "" || Show(api.Node{Kind: api.NOp, Text: "+"}) != "" {
		t.Error("Show of no node")
	}
	a, _, _ := Parse("1 + f($x)")
	for s, want := range map[string]bool{"1+f($x)": true, "1 - f($x)": false, "1 + g($x)": false, "1 + f($y)": false, "1 + f($x, 2)": false} {
		if b, _, _ := Parse(s); Same(a, b) != want {
			t.Errorf("Same of %q", s)
		}
	}
}

// 9.2
func TestApply(t *testing.T) {
	for _, c := range []struct {
		op, args, want, problem string
	}{
		{"+", "1|2", "3", ""}, {"-", "1|2", "-1", ""}, {"*", "3|-2", "-6", ""}, {"/", "-7|2", "-4", ""}, {"%", "-7|2", "1", ""}, {"**", "2|10", "1024", ""}, {"<<", "1|4", "16", ""}, {">>", "-5|1", "-3", ""}, {"&", "6|3", "2", ""}, {"|", "6|3", "7", ""}, {"^", "6|3", "5", ""}, {"~", "5", "-6", ""}, {"-", " 0x10 ", "-16", ""}, {"+", "+07", "7", ""}, {"!", "no", "1", ""}, {"!", "5", "0", ""},
		{"+", "a|b", "", "number: a"}, {"+", "1|b", "", "number: b"}, {"/", "7|0", "", "zero"}, {"%", "7|-0", "", "zero"}, {"**", "2|-1", "", "range: -1"}, {"<<", "1|100001", "", "range: 100001"}, {">>", "1|-1", "", "range: -1"}, {"<<", "1|" + nines(700), "", "range: " + nines(40)}, {"<<", "1|100000", "", "long"}, {"*", nines(600) + "|10", "", "long"}, {"+", nines(601) + "|1", "", "long"}, {"+", nines(601) + "|" + strings.Repeat("x", 50), "", "number: " + strings.Repeat("x", 40)}, {"~", "q", "", "number: q"}, {"!", "q", "", "truth: q"}, {"-", nines(601), "", "long"},
		{"<", "10|9", "0", ""}, {"<", "10|9a", "1", ""}, {"==", "10|0xA", "1", ""}, {"eq", "10|0xA", "0", ""}, {"ne", "10|0xA", "1", ""}, {"!=", " 1|1", "0", ""}, {"<=", "a|a", "1", ""}, {">=", "a|b", "0", ""}, {">", "b|a", "1", ""}, {"==", "|0", "0", ""}, {"==", nines(601) + "|0" + nines(601), "0", ""},
		{"in", "b|a {b} c", "1", ""}, {"ni", "b|a {b} c", "0", ""}, {"in", "x|a", "0", ""}, {"ni", "x|{", "", "list: {"}, {"in", "x|" + strings.Repeat("a ", 10001), "", "list: " + strings.Repeat("a ", 20)},
		{"&&", "1|1", "", "operator: &&"}, {"?", "1|1|1", "", "operator: ?"}, {"+", "1|2|3", "", "operator: +"}, {"!", "1|2", "", "operator: !"}, {"*", "1", "", "operator: *"}, {strings.Repeat("o", 41), "1|2", "", "operator: " + strings.Repeat("o", 40)},
	} {
		s, p := Apply(c.op, strings.Split(c.args, "|"))
		if s != c.want || p != c.problem {
			t.Errorf("Apply(%s, %.40q) = %q, %q", c.op, c.args, s, p)
		}
	}
	if _, p := Apply("-", nil); p != "operator: -" {
		t.Error("Apply of nothing")
	}
	for _, c := range []struct {
		name, args, want, problem string
	}{
		{"abs", "-5", "5", ""}, {"sign", "-5", "-1", ""}, {"root", "17", "4", ""}, {"root", "-1", "", "range: -1"}, {"not", "0", "1", ""}, {"bool", "yes", "1", ""}, {"bool", "x", "", "truth: x"}, {"min", "3|0x2|5", "2", ""}, {"max", "3", "3", ""}, {"max", "3|7|x", "", "number: x"}, {"min", nines(601) + "|1", "", "long"}, {"min", nines(601) + "|x", "", "number: x"}, {"gcd", "12|-18", "6", ""}, {"pow", "2|3", "8", ""}, {"pow", "2|-3", "", "range: -3"},
		{"abs", "1|2", "", "function: abs"}, {"gcd", "1", "", "function: gcd"}, {"nothing", "1", "", "function: nothing"}, {"sign", nines(601), "", "long"},
	} {
		s, p := Call(c.name, strings.Split(c.args, "|"))
		if s != c.want || p != c.problem {
			t.Errorf("Call(%s, %.40q) = %q, %q", c.name, c.args, s, p)
		}
	}
	if _, p := Call("max", nil); p != "function: max" {
		t.Error("max of nothing")
	}
	if yes, p := Truth("on"); !yes || p != "" {
		t.Error("Truth")
	}
	if yes, p := Truth(strings.Repeat("x", 41)); yes || p != "truth: "+strings.Repeat("x", 40) {
		t.Error("Truth of none")
	}
}

// 9.3
func TestEvaluate(t *testing.T) {
	for _, c := range []struct {
		s, want, problem string
		e                api.Errno
		folded           string
	}{
		{"1 + 2 * 3", "7", "", 0, "7"}, {"\"a\" < \"b\"", "1", "", 0, "1"}, {"$x + 1", "", "", api.ErrKind, "($x + 1)"}, {"$x + (1 + 2)", "", "", api.ErrKind, "($x + 3)"}, {"1 / 0", "", "zero", 0, "(1 / 0)"}, {"(1/0) + $x", "", "zero", 0, "((1 / 0) + $x)"}, {"{a} + $x", "", "", api.ErrKind, "({a} + $x)"},
		{"0 && $x", "0", "", 0, "0"}, {"1 || $x", "1", "", 0, "1"}, {"1 && $x", "", "", api.ErrKind, "(1 && $x)"}, {"$x && 0", "", "", api.ErrKind, "($x && 0)"}, {"1 && 5", "1", "", 0, "1"}, {"0 || 0", "0", "", 0, "0"}, {"{a} && 1", "", "truth: a", 0, "({a} && 1)"}, {"1 && {a}", "", "truth: a", 0, "(1 && {a})"},
		{"1 ? 2 : $x", "2", "", 0, "2"}, {"0 ? $x : 1 + 1", "2", "", 0, "2"}, {"1 ? $x + (1 + 1) : 3", "", "", api.ErrKind, "($x + 2)"}, {"{a} ? 1 : 2", "", "truth: a", 0, "({a} ? 1 : 2)"}, {"$x ? 1 + 1 : 2", "", "", api.ErrKind, "($x ? 2 : 2)"}, {"abs(-5) + f(1)", "", "function: f", 0, "(5 + f(1))"}, {"max(1, 2, [x])", "", "", api.ErrKind, "max(1, 2, [x])"}, {"\"a$b\" eq {}", "", "", api.ErrKind, "(\"a$b\" eq {})"}, {"{}", "", "", 0, "{}"},
	} {
		n, _, e := Parse(c.s)
		if e != 0 {
			t.Fatalf("Parse(%q)", c.s)
		}
		s, p, e := Evaluate(n)
		if s != c.want || p != c.problem || e != c.e {
			t.Errorf("Evaluate(%q) = %q, %q, %d", c.s, s, p, e)
		}
		f := Fold(n)
		if Show(f) != c.folded || !Same(Fold(f), f) {
			t.Errorf("Fold(%q) = %q, not %q", c.s, Show(f), c.folded)
		}
	}
	if s, ok := Constant(constant("x")); s != "x" || !ok {
		t.Error("Constant")
	}
	for _, n := range []api.Node{{}, {Kind: api.NWord}, {Kind: api.NOp, Text: "x"}, {Kind: api.NWord, Word: api.Word{Spread: true, Tokens: constant("x").Word.Tokens}}, {Kind: api.NWord, Word: api.Word{Tokens: []api.Token{{Kind: api.TVar, Text: "x"}}}}} {
		if _, ok := Constant(n); ok {
			t.Errorf("Constant(%v)", n)
		}
		Fold(n)
		if s, p, e := Evaluate(n); s != "" || e == 0 && p == "" {
			t.Errorf("Evaluate(%v)", n)
		}
	}
}

// 9.4
func TestTelling(t *testing.T) {
	n, _, _ := Parse("1 + f($x, \"a b\") ? - 2 : no")
	if l := Words(n); !slices.Equal(l, []string{"1", "$x", "\"a b\"", "2", "no"}) {
		t.Errorf("Words = %q", l)
	}
	if Depth(n) != 4 || Depth(constant("1")) != 1 {
		t.Errorf("Depth = %d", Depth(n))
	}
	want := strings.Fields("!= % & && * ** + - / < << <= == > >= >> ^ eq in ne ni | ||")
	if l := Operators(); !slices.Equal(l, want) {
		t.Errorf("Operators = %q", l)
	}
	for op, level := range map[string]int{"||": 1, "&&": 2, "|": 3, "^": 4, "&": 5, "eq": 6, "ni": 6, "==": 7, "!=": 7, "<": 8, ">=": 8, ">>": 9, "-": 10, "%": 11, "**": 12, "!": 0, "?": 0, "": 0, "~": 0} {
		if Level(op) != level {
			t.Errorf("Level(%s) = %d", op, Level(op))
		}
	}
}
