package machine

import (
	"fmt"
	"strings"
	"testing"

	"threadbare/api"
)

// does evaluates scripts, each in a new machine, and compares what it tells: the code, if it is not 0, and the text.
func does(t *testing.T, cases map[string]string) {
	t.Helper()
	for script, want := range cases {
		for _, on := range []bool{true, false} {
			x := New()
			x.Faces(on)
			if got := told(x.Eval(script, 1000)); got != want {
				t.Errorf("%.70q: %.70q, not %.70q", script, got, want)
			}
		}
	}
}

func told(o api.Outcome) string {
	switch {
	case o.Code == api.COk:
		return o.Text
	case o.Code == api.CReturn:
		return fmt.Sprint(o.Code, ",", o.Then, " ", o.Text)
	}
	return fmt.Sprint(o.Code, " ", o.Text)
}

func rep(s string, n int) string { return strings.Repeat(s, n) }

// 19.1: the commands
func TestCommands(t *testing.T) {
	does(t, map[string]string{
		"":                     "",
		"# no":                 "",
		"set a [list x {y z}]": "x {y z}",
		"set a 1; set a":       "1",
		"set a(b) 1; set a(b)": "1",
		"set ::a 2; set a":     "2",
		"catch {error no} m; list [catch {error no}] $m": "1 no",
		"rename set s; s x 5; set x":                     "1 command: set",
		"rename set s; s x 5":                            "5",
		"set":                                            "1 words: set",
		"set a b c":                                      "1 words: set",
		"set a":                                          "1 variable: a",
		"set a(x) 1; set a":                              "1 array: a",
		"set a 1; set a(x)":                              "1 array: a(x)",
		"set a 1; set a(x) 2":                            "1 array: a(x)",
		"set no::a 1":                                    "1 namespace: ::no",
		"set a::b(c::d) 1":                               "1 namespace: ::a",
		"set b(c::d) 1":                                  "1",
		"unset":                                          "",
		"set a 1; set b 2; unset a b; set b":             "1 variable: b",
		"set a 1; catch {unset a no}; set a":             "1 variable: a",
		"unset no":                                       "1 variable: no",
		"list":                                           "",
		"list a {} {b c} \"\\{\"":                        "a {} {b c} \\{",
		"eval":                                           "1 words: eval",
		"eval {set a 1}":                                 "1",
		"eval set a { 1 }":                               "1",
		"eval list {a b} {{c d}}":                        "a b {c d}",
		"eval {return 5}":                                "2,0 5",
		"expr 1 + 2 * 3":                                 "7",
		"expr {1 +}":                                     "1 expr: 1 +",
		"expr {[set a 5] + $a}":                          "10",
		"expr {1 ? [set a 2] : [error no]}":              "2",
		"expr {0 && [error no]}":                         "0",
		"expr {$no}":                                     "1 variable: no",
		"expr {1 / 0}":                                   "1 zero",
		"expr {{a} + 1}":                                 "1 number: a",
		"expr {{a} && 1}":                                "1 truth: a",
		"expr {{} in {a {}}}":                            "1",
		"expr {f(1)}":                                    "1 function: f",
		"catch {set a 1}":                                "0",
		"catch {return 5} m; set m":                      "5",
		"catch return":                                   "2",
		"catch {return -code break}":                     "2",
		"catch no":                                       "1",
		"catch {list a} b::m":                            "1 namespace: ::b",
		"catch {error no} m(1); catch {list} m":          "1 array: m",
		"error":                                          "1 words: error",
		"error {a b}":                                    "1 a b",
		"error {}":                                       "1 ",
		"return":                                         "2,0 ",
		"return a":                                       "2,0 a",
		"return -code":                                   "2,0 -code",
		"return -code error a":                           "2,1 a",
		"return -code 4":                                 "2,4 ",
		"return -code ok a":                              "2,0 a",
		"return -code x":                                 "1 option: x",
		"return -code 5 a":                               "1 option: 5",
		"return a b":                                     "1 words: return",
		"return a b c":                                   "1 words: return",
		"return -code a b c":                             "1 words: return",
		"set a 1; return; set a 2":                       "2,0 ",
		"rename no x":                                    "1 command: no",
		"rename set list":                                "1 exists: list",
		"rename set set":                                 "1 exists: set",
		"rename set a::b":                                "1 namespace: ::a",
		"rename set {}; set a 1":                         "1 command: set",
		"rename ::set ::x; x a 1":                        "1",
		"rename set {}; list":                            "",
		"no a":                                           "1 command: no",
		"::list a":                                       "a",
		"a::list a":                                      "1 command: a::list",
		rep("x", 50):                                     "1 command: " + rep("x", 40),
		"steps":                                          "999",
		"list; list [steps]":                             "998",
		"steps 1":                                        "1 words: steps",
		"set s set; $s":                                  "1 words: set",
		"::set":                                          "1 words: ::set",
	})
}

// 19.1: how scripts are evaluated
func TestEvaluated(t *testing.T) {
	long := rep("x", 40000)
	does(t, map[string]string{
		"list {a":               "1 script: list {a",
		"set a 1; list {a":      "1 script: set a 1; list {a",
		"eval {[} }":            "1 script: [ }",
		"{*}{}":                 "",
		"{*}{list a} b":         "a b",
		"{*}{list} {*}{a b}":    "a b",
		"list {*}\\{":           "1 list: {",
		"list $a [error no]":    "1 variable: a",
		"list [error no] $a":    "1 no",
		"list [return 5] x":     "2,0 5",
		"list a[list b]c":       "abc",
		"list [list a; list b]": "b",
		"list []":               "{}",
		"set a x; list $a(1)":   "1 array: a(1)",
		"set a(x1) 5; set i 1; list $a(x$i)$a([list x1])":                "55",
		"set a [list " + long + "]; list $a$a":                           "1 long",
		"set a [list " + long + "]; list $a $a":                          "1 long",
		"set a [list " + long + "]; expr {\"$a$a\" eq 1}":                "1 long",
		"list {*}{" + rep("a ", 10001) + "}":                             "1 long",
		"list {*}{" + rep("a ", 6000) + "} {*}{" + rep("a ", 6000) + "}": "1 long",
		rep("[", 101) + rep("]", 101):                                    "1 script: " + rep("[", 40),
		"expr {1 in {" + rep("a ", 10001) + "}}":                         "1 list: " + rep("a ", 20),
		"expr {" + rep("9", 600) + " + 1}":                               "1 long",
		"expr {-" + rep("-", 100) + "1}":                                 "1 expr: " + rep("-", 40),
	})
	deep := "list x"
	for range 99 {
		deep = "eval {" + deep + "}"
	}
	does(t, map[string]string{deep: "x", "eval {" + deep + "}": "1 deep", "catch {" + deep + "} m": "1"})
	x := New()
	for _, c := range []struct {
		script      string
		steps, left int
		want        string
	}{{"list; list; list a", 3, 0, "a"}, {"set a 1; set a 2; list", 2, 0, "5 steps"}, {"list", 0, 0, "5 steps"}, {"list", -5, 0, "5 steps"}, {"", -5, 0, ""}, {"steps", 1 << 40, 99999, "99999"}, {"catch {list; list} m", 2, 0, "5 steps"}, {"{*}{}", 5, 5, ""}, {"no", 5, 4, "1 command: no"}, {"list $no", 5, 5, "1 variable: no"}, {"set", 5, 4, "1 words: set"}} {
		if got := told(x.Eval(c.script, c.steps)); got != c.want || x.Left() != c.left {
			t.Errorf("%q with %d steps: %q, %d left", c.script, c.steps, got, x.Left())
		}
	}
	if s, _ := x.Get("a"); s != "2" {
		t.Error("what was done before a CStop stays")
	}
	for text, want := range map[string]string{"1 + $a": "3", "[steps]": "9", "1 +": "1 expr: 1 +", "[return 5]": "2,0 5"} {
		if got := told(x.Expr(text, 10)); got != want {
			t.Errorf("Expr(%q) = %q", text, got)
		}
	}
}

// 19.2
func TestTelling(t *testing.T) {
	x := New()
	if x.Left() != 0 || x.Dump() != "" {
		t.Error("at first")
	}
	if e := x.Set("a b", "1 2"); e != 0 {
		t.Error("Set")
	}
	x.Set("c(d)", "")
	for name, want := range map[string]string{"a b": "1 2 0", "c(d)": " 0", "no": " 8", "c": " 11", "::a": " 5", "c(::x)": " 8", "a::b(x)": " 5"} {
		s, e := x.Get(name)
		if got := fmt.Sprint(s, " ", e); got != want {
			t.Errorf("Get(%q) = %q", name, got)
		}
	}
	if x.Set("::a", "") != api.ErrName || x.Set("c", "") != api.ErrKind || x.Set("c(::x)", "1") != 0 {
		t.Error("Set of others")
	}
	if got, want := x.Dump(), ":: {{a b} {s {1 2}} c {a {::x 1 d {}}}}"; got != want {
		t.Errorf("Dump = %q", got)
	}
	if got := strings.Join(x.Commands("*"), " "); got != "::catch ::error ::eval ::expr ::list ::rename ::return ::set ::steps ::unset" {
		t.Errorf("Commands = %q", got)
	}
	if len(x.Commands("::s*")) != 2 || len(x.Commands("set")) != 0 || len(x.Spaces()) != 1 || x.Spaces()[0] != "::" {
		t.Error("Commands, Spaces")
	}
	x.Forget()
	if told(x.Eval("set {a b}", 5)) != "1 2" {
		t.Error("Forget")
	}
	var none *Machine
	none.Forget()
	none.Faces(true)
	if o := none.Eval("", 1); told(o) != "1 machine" || told(none.Expr("1", 1)) != "1 machine" || none.Set("a", "") != api.ErrState || none.Left() != 0 || none.Dump() != "" || none.Commands("*") != nil || none.Spaces() != nil {
		t.Error("a nil machine")
	}
	if s, e := none.Get("a"); s != "" || e != 0 {
		t.Error("Get of a nil machine")
	}
	zero := &Machine{}
	zero.Forget()
	zero.Faces(false)
	if told(zero.Eval("list", 1)) != "1 machine" || zero.Dump() != "" || zero.Set("a", "") != api.ErrState || zero.Commands("*") != nil || zero.Spaces() != nil {
		t.Error("a zero machine")
	}
	y := New()
	y.Eval("rename list l", 5)
	if told(New().Eval("list", 5)) != "" {
		t.Error("machines are apart")
	}
}
