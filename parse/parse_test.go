package parse

import (
	"slices"
	"strings"
	"testing"

	"threadbare/api"
)

// show writes the tokens of a script in one line: words between bars.
func show(t *testing.T, s string) string {
	t.Helper()
	l, at, e := Script(s)
	if e != api.OK || at != 0 {
		t.Errorf("Script(%q): %d at %d", s, e, at)
	}
	return strings.ReplaceAll(Show(l), "\n", "|")
}

// 6.1
func TestWords(t *testing.T) {
	for s, want := range map[string]string{
		"":                            "",
		" \n;; \t\\\n  ;":             "",
		"a b":                         "command 0|word| text a|word| text b|",
		" a\\\n\tb":                   "command 1|word| text a|word| text b|",
		"a;b\nc":                      "command 0|word| text a|command 2|word| text b|command 4|word| text c|",
		"a\vb\rc":                     "command 0|word| text a|word| text b|word| text c|",
		"# no\\\nstill\na":            "command 12|word| text a|",
		"# no\\\\\na":                 "command 7|word| text a|",
		"a # b":                       "command 0|word| text a|word| text {#}|word| text b|",
		"a;#b":                        "command 0|word| text a|",
		"{a\\\n \tb\\\\\nc}":          "command 0|word| text a\\ b\\\\\\\\\\nc|",
		"{a\\}b} {{x}}":               "command 0|word| text {a\\}b}|word| text {{x}}|",
		"{}":                          "command 0|word| text {}|",
		"\"\"":                        "command 0|word| text {}|",
		"\"a b\\n$x\"":                "command 0|word| text {a b|}| var x|",
		"a\"b{c}]":                    "command 0|word| text {a\"b{c}]}|",
		"a$b c$ $":                    "command 0|word| text a| var b|word| text {c$}|word| text {$}|",
		"$a:b $a::b $::a::: $:a":      "command 0|word| var a| text :b|word| var a::b|word| var ::a:::|word| text {$:a}|",
		"$a(x y\"{$b(c)[d]\\n)e":      "command 0|word| var a| index|  text x\\ y\\\"\\{|  var b|  index|   text c|  script d|  text {|}| text e|",
		"$a()":                        "command 0|word| var a| index|  text {}|",
		"${a b}c ${} $(a)":            "command 0|word| var {a b}| text c|word| var {}|word| text {$(a)}|",
		"[a \"]\" {]} $b(]) [c]]d []": "command 0|word| script {a \"]\" {]} $b(]) [c]}| text d|word| script {}|",
		"[a\nb;c]":                    "command 0|word| script {a|b;c}|",
		"[#]\n]":                      "command 0|word| script {#]|}|",
		"{*}{a b}":                    "command 0|spread| text {a b}|",
		"{*}$a {*}[b] {*}\"c\" {*}d":  "command 0|spread| var a|spread| script b|spread| text c|spread| text d|",
		"{*}{*}a {*} {*};{*}":         "command 0|spread| text a|word| text *|word| text *|command 16|word| text *|",
		"{*}\\\na":                    "command 0|word| text *|word| text a|",
		"[{*}]":                       "command 0|word| script {{*}}|",
		"{a}\\\nb":                    "command 0|word| text a|word| text b|",
		"]":                           "command 0|word| text {]}|",
		"\\x41\\\\a b\\":              "command 0|word| text {A\\a}|word| text b\\\\|",
	} {
		if got := show(t, s); got != want {
			t.Errorf("Script(%q):\n%s\n%s", s, got, want)
		}
	}
}

func nested(n int) string { return strings.Repeat("[", n) + strings.Repeat("]", n) }

// 6.1
func TestErrors(t *testing.T) {
	for _, c := range []struct {
		s    string
		at   int
		e    api.Errno
		done bool
	}{
		{"set x {a", 6, api.ErrSyntax, false}, {"a \"b", 2, api.ErrSyntax, false}, {"a [b", 2, api.ErrSyntax, false}, {"a [b {c", 5, api.ErrSyntax, false}, {"\"a [b", 3, api.ErrSyntax, false}, {"[set x \"a]", 7, api.ErrSyntax, false},
		{"x${a", 1, api.ErrSyntax, false}, {"$a(b", 2, api.ErrSyntax, false}, {"\"$a(b\"", 3, api.ErrSyntax, false}, {"{a}b", 3, api.ErrSyntax, true}, {"\"a\"b", 3, api.ErrSyntax, true}, {"[{a}b]", 4, api.ErrSyntax, true}, {"{*}{a}b", 6, api.ErrSyntax, true}, {"{a}]", 3, api.ErrSyntax, true},
		{nested(100), 0, 0, true}, {nested(101), 0, api.ErrLimit, true}, {strings.Repeat("[", 101), 0, api.ErrLimit, true}, {strings.Repeat("$a(", 101), 0, api.ErrLimit, true}, {strings.Repeat("[", 100), 99, api.ErrSyntax, false}, {strings.Repeat("$a(", 100) + strings.Repeat(")", 100), 0, 0, true},
		{"{a\\}", 0, api.ErrSyntax, false}, {"a\\", 0, 0, true}, {"[# ]", 0, api.ErrSyntax, false},
	} {
		l, at, e := Script(c.s)
		if e != c.e || at != c.at || e != 0 && l != nil {
			t.Errorf("Script(%.20q): %d at %d", c.s, e, at)
		}
		if Complete(c.s) != c.done {
			t.Errorf("Complete(%.20q)", c.s)
		}
	}
}

// 6.2
func TestParts(t *testing.T) {
	tell := func(l []api.Token, _ int, e api.Errno) string {
		if e != api.OK {
			return "error"
		}
		s := Show([]api.Command{{Words: []api.Word{{Tokens: l}}}})
		return strings.ReplaceAll(strings.TrimPrefix(s, "command 0\nword\n"), "\n", "|")
	}
	for _, c := range []struct {
		s                     string
		slashes, vars, sripts bool
		want                  string
	}{
		{"a\"b $c[d]\\n", true, true, true, " text {a\"b }| var c| script d| text {|}|"}, {"a\\n$b[c]", false, false, false, " text {a\\n$b[c]}|"}, {"", true, true, true, ""}, {"$a([b]$c\\n)[$d]", false, true, false, " var a| index|  text {[b]}|  var c|  text {\\n}| text {[}| var d| text {]}|"},
		{"[a $b\\n]", false, false, true, " script {a $b\\n}|"}, {"$a([b $c])", false, true, true, " var a| index|  script {b $c}|"}, {"${a}\\x41", true, false, true, " text {${a}A}|"}, {"[a", true, true, false, " text {[a}|"}, {"[a", true, true, true, "error"},
	} {
		if got := tell(Subst(c.s, c.slashes, c.vars, c.sripts)); got != c.want {
			t.Errorf("Subst(%q):\n%s\n%s", c.s, got, c.want)
		}
	}
	if l, at, e := Parts("\"$x"); e != 0 || at != 0 || len(l) != 2 {
		t.Error("Parts")
	}
	if l, at, e := Parts("ab[c"); e != api.ErrSyntax || at != 2 || l != nil {
		t.Error("Parts of what has no end")
	}
	if _, at, e := Parts(nested(101)); e != api.ErrLimit || at != 0 {
		t.Error("Parts too deep")
	}
	for _, c := range []struct {
		s   string
		at  int
		end int
		e   api.Errno
	}{{"x$a b", 1, 3, 0}, {"$a(b c)d", 0, 7, 0}, {"${a}b", 0, 4, 0}, {"$ a", 0, 0, api.ErrNone}, {"a", 0, 0, api.ErrNone}, {"$a", 2, 0, api.ErrNone}, {"$a", -1, 0, api.ErrNone}, {"$a(b", 0, 0, api.ErrSyntax}, {"${a", 0, 0, api.ErrSyntax}, {strings.Repeat("$a(", 101), 0, 0, api.ErrLimit}, {"$", 0, 0, api.ErrNone}} {
		v, end, e := Variable(c.s, c.at)
		if end != c.end || e != c.e || e == 0 && (v.Kind != api.TVar || v.Text != "a") || e != 0 && v.Kind != 0 {
			t.Errorf("Variable(%.9q, %d) = %v, %d, %d", c.s, c.at, v, end, e)
		}
	}
}

// 6.3
func TestTelling(t *testing.T) {
	l, _, _ := Script("f [g $a([h])] [i;j [k]]; f {*}x; {*}z; $q; [m]x; g [bad")
	if l != nil {
		t.Error("a wrong script")
	}
	l, _, _ = Script("f [g $a([h])] [i;j [k]] {[no]}\nf {*}x; {*}z; $q; [m]x; g")
	if got := Names(l); !slices.Equal(got, strings.Fields("f g h i j k m")) {
		t.Errorf("Names = %q", got)
	}
	if got := Scripts(l); !slices.Equal(got, []string{"g $a([h])", "i;j [k]", "m"}) {
		t.Errorf("Scripts = %q", got)
	}
	if n := Count(l); n != 12 {
		t.Errorf("Count = %d", n)
	}
	wrong := []api.Command{{Words: []api.Word{{Tokens: []api.Token{{Kind: api.TScript, Text: "{"}}}}}, {}}
	if Count(wrong) != 2 || len(Names(wrong)) != 0 || len(Scripts(wrong)) != 1 {
		t.Error("a script within that is wrong")
	}
	for _, c := range []struct {
		w    api.Word
		want string
		ok   bool
	}{{api.Word{Tokens: []api.Token{{Kind: api.TText, Text: "a"}}}, "a", true}, {api.Word{Spread: true, Tokens: []api.Token{{Kind: api.TText, Text: "a"}}}, "", false}, {api.Word{}, "", false}, {api.Word{Tokens: []api.Token{{Kind: api.TVar, Text: "a"}}}, "", false}} {
		if s, ok := Literal(c.w); s != c.want || ok != c.ok {
			t.Errorf("Literal(%v)", c.w)
		}
	}
	for s, want := range map[string]string{"": "", "a b|{}|#|*|{*}|a{": "{a b} \\{\\} {#} * {{*}} a\\{"} {
		if s == "" {
			if Quoted(nil) != want {
				t.Error("Quoted of none")
			}
			continue
		}
		words := strings.Split(s, "|")
		got := Quoted(words)
		l, _, e := Script(got)
		if e != 0 || len(l) != 1 || len(l[0].Words) != len(words) {
			t.Fatalf("Quoted = %q", got)
		}
		for i, w := range l[0].Words {
			if s, ok := Literal(w); !ok || s != words[i] {
				t.Errorf("the word %q became %q", words[i], s)
			}
		}
	}
	for at, want := range map[int]int{-5: 0, 0: 0, 1: 0, 2: 1, 3: 2, 99: 3} {
		if Line("a\n\nb\n", at) != want {
			t.Errorf("Line at %d", at)
		}
	}
}
