package basic

import (
	"fmt"
	"slices"
	"strings"
	"testing"

	"threadbare/api"
)

// does evaluates scripts, each in a new machine with and without faces, and compares what it tells: the code, if it is not 0, and the text.
func does(t *testing.T, cases map[string]string) {
	t.Helper()
	for script, want := range cases {
		for _, on := range []bool{true, false} {
			x := New()
			x.Faces(on)
			if got := told(x.Eval(script, 20000)); got != want {
				t.Errorf("%.90q: %.90q, not %.90q", script, got, want)
			}
		}
	}
}

func told(o api.Outcome) string {
	switch {
	case o.Code == api.COk:
		return o.Text
	case o.Code == api.CReturn:
		return fmt.Sprint(o.Code, ",", o.Then, " ", o.Text)
	}
	return fmt.Sprint(o.Code, " ", o.Text)
}

func rep(s string, n int) string { return strings.Repeat(s, n) }

// 20.1: choice
func TestChoice(t *testing.T) {
	does(t, map[string]string{
		"if 0 {set a 1} elseif 1 then {set a 2}": "2", "if 1 then {list a}": "a", "if 0 {list a} {list b}": "b", "if 0 {list a} else {list b}": "b", "if 0 {list a}": "", "if 0 {list a} elseif 0 {list b} elseif 1 {list c} else {list d}": "c",
		"if": "1 words: if", "if 1": "1 words: if", "if 1 then": "1 words: if", "if {[error no]} {a} else": "1 words: if", "if 1 {a} {b} {c}": "1 words: if", "if 1 {a} elseif": "1 words: if", "if 1 {a} else {b} {c}": "1 words: if", "if 1 {a} elseif 1": "1 words: if",
		"if {1 +} {list a}": "1 expr: 1 +", "if {{x}} {list a}": "1 truth: x", "if {[break]} {list a}": "3 ", "if 1 {break}": "3 ", "if {$no} {a}": "1 variable: no",
		"switch a {a {list 1} b {list 2}}": "1", "switch x {a {list 1} default {list 2}}": "2", "switch x {a {list 1}}": "", "switch -glob abc {a* {list 1}}": "1", "switch -exact -glob abc {a* {list 1}}": "1", "switch -glob -exact abc {a* {list 1}}": "", "switch -nocase -exact ABC {abc {list 1}}": "1", "switch -glob -nocase ABC {a* {list 1}}": "1", "switch -- -x {-x {list 1}}": "1", "switch a {a - b - c {list 3}}": "3", "switch a {a - b -}": "1 option: -", "switch default {default {list 1} x {list 2}}": "1", "switch x {default {list 1} y {list 2}}": "",
		"switch -x a {a b}": "1 option: -x", "switch -glob {a b}": "1 words: switch", "switch a": "1 words: switch", "switch a {}": "1 words: switch", "switch a {a}": "1 words: switch", "switch a \\{": "1 list: {", "switch a b c": "1 words: switch", "switch -- a": "1 words: switch", "switch a {a break}": "3 ",
	})
	for s, want := range map[string]string{"c then b": "[c] [b] 0", "c b e": "[c] [b e] 0", "c b elseif d then e else f": "[c d] [b e f] 0", "": "[] [] 2", "c then": "[] [] 2", "then then then": "[then] [then] 0", "c b else": "[] [] 2", "c b d e": "[] [] 2", "c elseif": "[c] [elseif] 0", "c b elseif d": "[] [] 2", "c b else else": "[c] [b else] 0"} {
		conds, bodies, e := Conditions(strings.Fields(s))
		if got := fmt.Sprint(conds, bodies, e); got != want {
			t.Errorf("Conditions(%q) = %s", s, got)
		}
	}
}

// 20.1: repetition
func TestRepetition(t *testing.T) {
	does(t, map[string]string{
		"set i 0; while {$i < 3} {incr i}; set i": "3", "while 0 {error no}": "", "while 1 break": "", "set i 0; while {$i < 5} {incr i; if {$i == 2} continue; append s $i}; set s": "1345", "while 1 {error no}": "1 no", "while 1 {return 5}": "2,0 5", "while {[break]} {}": "3 ", "while {{x}} {}": "1 truth: x", "while 1": "1 words: while", "while 0 {}; steps": "19997", "while 1 {}": "5 steps",
		"for {set i 0} {$i < 3} {incr i} {append s $i}; set s": "012", "for {set i 0} {$i < 3} {incr i} {if {$i == 1} continue; append s $i}; set s": "02", "for break 1 {} {}": "3 ", "for {} 1 break {append s x}; set s": "x", "for {set i 0} {$i < 2} {incr i; continue} {append s x}; set s": "xx", "for {} 1 {error no} {}": "1 no", "for {} {[continue]} {} {}": "4 ", "for {} 0 {} {}; steps": "19997", "for a b c": "1 words: for",
		"set s 0; foreach {a b} {1 2 3} {incr s $a}; set s": "4", "foreach {a b} {1 2 3} c {x} {append s <$a,$b,$c>}; set s": "<1,2,x><3,,>", "foreach a {1 2 3} {if {$a == 2} break; append s $a}; set s": "1", "foreach a {1 2 3} {if {$a == 2} continue; append s $a}; set s": "13", "foreach a {} {error no}": "", "foreach {} {1} {}": "1 words: foreach", "foreach a \\{ {}": "1 list: {", "foreach {} {} b \\{ {}": "1 list: {", "foreach \\{ x {}": "1 list: {", "foreach a b": "1 words: foreach", "foreach a b c d": "1 words: foreach", "foreach {a a} {1 2} {append s $a}; set s": "2", "foreach a {1 2} {error $a}": "1 1", "set a(x) 1; foreach a {1} {}": "1 array: a", "foreach a(1) {x y} {}; set a(1)": "y", "foreach a {1} {}; steps": "19997", "foreach a " + rep("{1 ", 1) + rep("1 ", 10001) + "} {}": "1 long",
		"lmap x {a b} {list $x$x}": "aa bb", "lmap x {a {} c} {set x}": "a {} c", "set s x; while {[incr n] < 17} {append s $s}; set n 0; catch {lmap x {1 2 3} {incr n; set s}} m; list $m $n": "long 3", "set s x; while {[incr n] < 17} {append s $s}; lmap x {1 2 3} {if {$x == 3} {error no}; set s}": "1 no", "lmap x {1 2 3} {if {$x == 2} continue; set x}": "1 3", "lmap x {1 2 3} {if {$x == 2} break; set x}": "1", "lmap x {1 2} {return 5}": "2,0 5", "lmap {} {} {}": "1 words: lmap", "lmap x {1 2} {set q " + rep("x", 40000) + "}": "1 long",
		"break": "3 ", "continue": "4 ", "break x": "1 words: break",
	})
	for _, c := range []struct {
		names, lists []string
		want         string
	}{{[]string{"a b", "c"}, []string{"1 2 3", "x"}, "[[1 2 x] [3  ]] 0"}, {nil, nil, "[] 1"}, {[]string{"a"}, nil, "[] 1"}, {[]string{"{", "a"}, []string{"", ""}, "[] 2"}, {[]string{"", "a"}, []string{"", "{"}, "[] 2"}, {[]string{""}, []string{"x"}, "[] 8"}, {[]string{"a"}, []string{""}, "[] 0"}} {
		l, e := Rounds(c.names, c.lists)
		if got := fmt.Sprint(l, e); got != c.want {
			t.Errorf("Rounds(%q, %q) = %s", c.names, c.lists, got)
		}
	}
}

// 20.1: the others
func TestOthers(t *testing.T) {
	does(t, map[string]string{
		"incr a": "1", "set a 5; incr a -7": "-2", "set a 0x10; incr a": "17", "incr a 0x10": "16", "set a x; incr a y": "1 number: x", "incr a y": "1 number: y", "set a(1) 1; incr a": "1 array: a", "set a(1) 1; incr a(1) 2; set a(1)": "3", "incr": "1 words: incr", "incr a b c": "1 words: incr", "set a " + rep("9", 600) + "; incr a": "1 long", "incr b::a": "1 namespace: ::b",
		"append a x {} y": "xy", "append a; set a": "", "set a 1; append a": "1", "set a(1) 1; append a x": "1 array: a", "append a " + rep("x", 40000) + " " + rep("x", 40000): "1 long", "append": "1 words: append",
		"concat { a } {} b": "a b", "concat": "", "concat " + rep("x", 40000) + " " + rep("x", 40000): "1 long",
		"set x 5; subst {a$x\\t[list b]}": "a5\tb", "set x 5; subst -novars {a$x\\t[list b]}": "a$x\tb", "set x 5; subst -noslashes -noscripts {a$x\\t[list b]}": "a5\\t[list b]", "subst -x -y": "1 option: -x", "subst -novars": "-novars", "subst": "1 words: subst", "subst a b": "1 words: subst", "subst -x a b": "1 option: -x", "subst {a[b}": "1 script: a[b", "subst {[break]}": "3 ", "subst {}": "", "subst {$no}": "1 variable: no", "set a " + rep("x", 40000) + "; subst {$a$a}": "1 long",
		"throw x": "1 x", "throw": "1 words: throw", "nop": "", "nop a b": "", "nop [set a 1]; set a": "1",
		"try {error x} on error m {set m} finally {set f 1}": "x", "try {list a} finally {set f 1}; set f": "1", "try {list a}": "a", "try {error x} on ok - {list y}": "1 x", "try {error x} on 0 - {list y} on 1 - {list z} on error - {list q}": "z", "try {return 5} on return r {set r}": "5", "try break on break - {list b}": "b", "try {error x} on error m {error y$m} finally {list}": "1 yx", "try {list a} finally {error f}": "1 f", "try {error x} on error b::m {list a} finally {set f 1}": "1 namespace: ::b", "try {error x} on error b::m {} finally {set f 1}; set f": "1 namespace: ::b", "catch {try {error x} on error b::m {} finally {set f 1}}; set f": "1",
		"try": "1 words: try", "try a on error m": "1 words: try", "try a finally": "1 words: try", "try a finally b c": "1 words: try", "try {set a 1} on x - {}": "1 option: x", "catch {try {set a 1} on ok - {} on x - {}}; set a": "1 variable: a", "try a on x": "1 words: try", "try {while 1 {}} finally {set f 1}": "5 steps", "try {list a} on ok m {break}": "3 ", "try {return -code error x} on error - {list e} on return m {list r $m}": "r x",
	})
	x := New()
	x.Eval("try {while 1 {}} on error - {set f 1} finally {set f 2}", 50)
	if _, e := x.Get("f"); e != api.ErrNone {
		t.Error("nothing is done behind a CStop")
	}
	want := strings.Fields("append break concat continue for foreach if incr lmap nop subst switch throw try while")
	if !slices.Equal(Commands(), want) || len(New().Commands("*")) != 10+len(want) {
		t.Errorf("Commands = %q", Commands())
	}
}
