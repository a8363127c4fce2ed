package procs

import (
	"fmt"
	"slices"
	"strings"
	"testing"

	"threadbare/api"
)

// does evaluates scripts, each in a new machine with and without faces, and compares what it tells: the code, if it is not 0, and the text.
func does(t *testing.T, cases map[string]string) {
	t.Helper()
	for script, want := range cases {
		for _, on := range []bool{true, false} {
			x := New()
			x.Faces(on)
			if got := told(x.Eval(script, 20000)); got != want {
				t.Errorf("%.90q: %.90q, not %.90q", script, got, want)
			}
		}
	}
}

func told(o api.Outcome) string {
	switch {
	case o.Code == api.COk:
		return o.Text
	case o.Code == api.CReturn:
		return fmt.Sprint(o.Code, ",", o.Then, " ", o.Text)
	}
	return fmt.Sprint(o.Code, " ", o.Text)
}

func rep(s string, n int) string { return strings.Repeat(s, n) }

// 21.1: procedures
func TestProcedures(t *testing.T) {
	does(t, map[string]string{
		"proc f {a {b 2} args} {list $a $b $args}; f 1": "1 2 {}", "proc f {a {b 2} args} {list $a $b $args}; f 1 x y z": "1 x {y z}", "proc f {{a 1} b} {list $a $b}; f x": "1 words: f", "proc f {{a 1} b} {list $a $b}; f x y": "x y", "proc f {a} {}; f": "1 words: f", "proc f {a} {}; ::f 1 2": "1 words: ::f", "proc f {args x} {list $args $x}; f 1 2": "1 2", "proc f {{args 5}} {set args}; f": "5", "proc f {} {}; f": "",
		"proc f {{a b c}} {}": "1 param: a b c", "proc f {{}} {}": "1 param: ", "proc f {a a} {}": "1 param: a", "proc f a(b {}": "1 param: a(b", "proc f a::b {}": "1 param: a::b", "proc f {{{} 1}} {}": "1 param: {} 1", "proc f \\{ {}": "1 list: {", "proc f \\\\\\{ {}": "1 list: {", "proc a::f {} {}": "1 namespace: ::a", "proc a::f \\{ {}": "1 list: {", "proc f": "1 words: proc",
		"proc f {} {return 5; error no}; f": "5", "proc f {} {return -code error x}; f": "1 x", "proc f {} {return -code break x}; f": "3 x", "proc f {} {return -code return x}; f": "2,0 x", "proc f {} {return -code return x}; proc g {} {f; error no}; g": "x", "proc f {} {break}; f": "1 code: break", "proc f {} {continue}; f": "1 code: continue", "proc f {} {error no}; f": "1 no",
		"set x 1; proc f {} {set x 2}; f; set x": "1", "proc f {} {set y 1}; f; set y": "1 variable: y", "proc f n {if {$n == 0} {return 1}; expr {$n * [f [expr {$n - 1}]]}}; f 10": "3628800", "proc f n {f $n}; f 1": "1 deep", "proc f {} {list a}; rename f g; g": "a", "proc f {} {rename f {}; list a}; f": "a", "proc set args {list mine}; set x": "mine",
		"apply {{a {b 2}} {list $a $b}} 1": "1 2", "apply {{} {return 5}}": "5", "apply \\{": "1 list: {", "apply {a}": "1 lambda: a", "apply {{a a} {}}": "1 param: a", "apply {a {}}": "1 words: apply", "apply {\\{ {}}": "1 list: {", "apply": "1 words: apply", "apply {a {list [info level 1]}} {x y}": "{apply {x y}}", "apply {{} {info level 0}}": "apply", "::apply {args {info level 0}} 1 2": "apply 1 2", "rename apply a; a {{} {info level 0}}": "apply", "rename apply a; a {x {}}": "1 words: apply", "rename apply a; a": "1 words: a",
		"proc set {{1} x} {info level 1}\napply {{x y} {set u 4}} 1 2": "apply 1 2",
	})
	for s, want := range map[string]string{"a {b 2} args": "[a b args] [ 2 ] [false true false] true 0", "": "[] [] [] false 0", "{args 1}": "[args] [1] [true] false 0", "{": "[] [] [] false 2", "a \\{ b::c": "[] [] [] false 2", "a a \\{": "[] [] [] false 5", "{}": "[] [] [] false 5", "{a b c}": "[] [] [] false 5"} {
		names, defaults, has, rest, e := Params(s)
		if got := fmt.Sprint(names, defaults, has, " ", rest, " ", e); strings.ReplaceAll(got, "  ", " ") != strings.ReplaceAll(want, "  ", " ") {
			t.Errorf("Params(%q) = %s", s, got)
		}
	}
	for _, c := range []struct {
		params, words, want string
		e                   api.Errno
	}{{"a {b 2} args", "1", "1|2|", 0}, {"a args", "1 2 3", "1|2 3", 0}, {"a", "", "", api.ErrNone}, {"a", "1 2", "", api.ErrLimit}, {"a a", "", "", api.ErrName}, {"{", "", "", api.ErrSyntax}, {"", "", "", 0}, {"args", rep("x ", 10001), "", api.ErrLong}} {
		l, e := Bind(c.params, strings.Fields(c.words))
		if strings.Join(l, "|") != c.want || e != c.e {
			t.Errorf("Bind(%q, %.9q) = %q, %d", c.params, c.words, l, e)
		}
	}
}

// 21.1: levels
func TestLevels(t *testing.T) {
	does(t, map[string]string{
		"proc g x {upvar 1 $x y; incr y}; set v 5; g v; set v": "6", "proc f {} {uplevel {set a 1}}; f; set a": "1", "proc f {} {uplevel 1 set a {b c}}; f; set a": "1 words: set", "proc f {} {uplevel 1 set a b}; f; set a": "b", "proc f {} {g}; proc g {} {uplevel #1 {set z 1}; uplevel 1 {set z}}; f": "1", "proc f {} {uplevel 0 {info level}}; f": "1", "proc f {} {uplevel #0 {info level}}; f": "0", "proc f {} {uplevel 1 {return 5}; list a}; f": "5", "uplevel list a": "1 level: 1", "uplevel 1 list": "1 level: 1", "uplevel 0 list a": "a", "uplevel #0 list a": "a", "uplevel #1 list a": "1 level: #1", "uplevel 0": "1 level: 1", "uplevel 1234567890 list": "1 level: 1", "uplevel": "1 words: uplevel",
		"proc f {} {uplevel 2 list}; f": "1 level: 2", "proc f {} {uplevel 1 {g}}; proc g {} {info level}; f": "1", "proc f {} {catch {uplevel 1 {error no}}; set a 1; info level}; f": "1",
		"proc f {} {upvar #0 a b c d; set b 1; set d 2}; f; list $a $c": "1 2", "proc f {} {upvar a b; set b(x) 1}; f; set a(x)": "1", "proc f {} {upvar a(x) b; set b 5}; f; set a(x)": "5", "upvar a b": "1 level: 1", "upvar 0 a b; set b 1; set a": "1", "upvar 0 a a": "1 circle: a", "set b 1; upvar 0 a b": "1 exists: b", "upvar 0 a b(x)": "1 name: b(x)", "upvar 0 a x::b": "1 name: x::b", "upvar 0 x::a b": "1 namespace: ::x", "set a 1; upvar 0 a(x) b": "1 array: a(x)", "upvar x a b": "1 level: x", "upvar a": "1 words: upvar", "upvar 0 a b b a": "1 circle: a", "upvar 0 ::a b; set b 1; set ::a": "1",
		"proc f {} {global a; set a 1}; f; set a": "1", "global a": "", "proc f {} {global ::a::b; set b 1}; f; set b": "1", "proc f {} {global a(x)}; f": "1 name: a(x)", "proc f a {global a}; f 1": "1 exists: a", "proc f {} {global a a; set a 1}; f; set a": "1", "global": "1 words: global", "proc f b {global ::a::b}; f 1": "1 exists: ::a::b", "proc f {} {global a(::b)}; f": "1 name: a(::b)", "proc f {} {upvar #0 b a; global ::b; uplevel #0 {set b 1}; list $a $b}; f": "1 1", "proc f {} {upvar #0 x b; set b 1; global ::q::b; info exists b}; f": "0",
		"info level": "0", "proc f args {info level}; f": "1", "proc f args {info level 1}; ::f a {b c}": "::f a {b c}", "proc f args {g x}; proc g args {list [info level 0] [info level -1] [info level 2] [info level 1]}; f y": "{g x} {f y} {g x} {f y}", "info level 0": "1 level: 0", "info level 1": "1 level: 1", "info level x": "1 number: x", "proc f {} {info level -1}; f": "1 level: -1", "proc f {} {info level -" + rep("9", 30) + "}; f": "1 level: -" + rep("9", 30),
	})
	for _, c := range []struct {
		word      string
		now, want int
		e         api.Errno
	}{{"1", 3, 2, 0}, {"#1", 3, 1, 0}, {"0", 0, 0, 0}, {"#0", 5, 0, 0}, {"4", 3, 0, api.ErrRange}, {"#4", 3, 0, api.ErrRange}, {"x", 3, 0, api.ErrSyntax}, {"", 3, 0, api.ErrSyntax}, {"#", 3, 0, api.ErrSyntax}, {"-1", 3, 0, api.ErrSyntax}, {"1234567890", 3, 0, api.ErrSyntax}, {"999999999", 3, 0, api.ErrRange}, {"0", -1, 0, api.ErrRange}, {"x", -1, 0, api.ErrSyntax}, {"##1", 3, 0, api.ErrSyntax}} {
		if n, e := Level(c.word, c.now); n != c.want || e != c.e {
			t.Errorf("Level(%s, %d) = %d, %d", c.word, c.now, n, e)
		}
	}
}

// 21.1: tail calls
func TestTailcall(t *testing.T) {
	does(t, map[string]string{
		"tailcall list a": "1 level: tailcall", "proc f {} {tailcall list a b; error no}; f": "a b", "proc f {} {tailcall set x 1}; f; set x": "1", "proc f {} {catch {tailcall set x 1} m; list $m [catch {tailcall x}]}; list [f] [catch {set x}]": "{{} 2} 1", "proc f {} {try {tailcall set x 1} on return m {list a$m}}; f": "a", "proc f n {if {$n == 0} {return done}; tailcall f [expr {$n - 1}]}; f 3000": "done", "proc f {} {tailcall break}; f": "3 ", "proc f {} {tailcall no}; f": "1 command: no", "proc f {} {tailcall error x}; catch f m; set m": "x", "proc f {} {tailcall g}; proc g {} {info level}; f": "1", "proc f {} {tailcall}; f": "1 words: tailcall", "proc f {} {tailcall f}; f": "5 steps", "proc f {} {tailcall steps}; f": "19996", "proc f {} {if 1 {tailcall list a}; error no}; f": "a", "proc f {} {uplevel 0 {tailcall list a}; error no}; f": "a", "proc f {} {tailcall return -code error x}; f": "2,1 x",
		"proc f {} {eval {tailcall info level}}; proc g {} {f}; g": "1",
	})
}

// 21.1: info and array
func TestAsked(t *testing.T) {
	does(t, map[string]string{
		"info": "1 words: info", "info x": "1 option: x", "info exists": "1 words: info", "info exists a": "0", "set a 1; info exists a": "1", "set a(x) 1; list [info exists a] [info exists a(x)] [info exists a(y)]": "1 1 0", "info exists x::y": "0",
		"proc f {a {b 2} args} {body}; list [info body f] [info args f] [info default f b v] $v [info default f a v] $v": "body {a b args} 1 2 0 {}", "info body no": "1 command: no", "info body set": "1 proc: set", "info args info": "1 proc: info", "proc f a {}; info default f x v": "1 param: x", "proc f a {}; info default f a x::v": "1 namespace: ::x",
		"proc a1 {} {}; info commands a*": "a1 append apply array", "proc a1 {} {}; proc b1 {} {}; info procs": "a1 b1", "proc a1 {} {}; proc b1 {} {}; info procs b*": "b1", "set b 1; set a(x) 1; info vars": "a b", "set b 1; proc f x {set y 1; upvar 1 b z; list [info vars] [info locals] [info globals] [info vars ?] [info locals y*]}; f 1": "{x y z} {x y} b {x y z} y", "set a 1; info locals": "", "set ab 1; set b 1; info globals a*": "ab", "info complete {a {}}": "1", "info complete \\{": "0", "info vars a b": "1 words: info",
		"array": "1 words: array", "array x": "1 option: x", "array exists": "1 words: array", "array exists a": "0", "set a 1; array exists a": "0", "set a(x) 1; array exists a": "1", "array set a {x 1 y 2 x 3}; list [array get a] [array names a] [array size a] [array get a x*] [array names a y]": "{x 3 y 2} {x y} 2 {x 3} y", "array set a {}; list [array exists a] [array size a]": "1 0", "array set a x": "1 dict: x", "set a 1; array set a {x 1}": "1 array: a", "set a 1; array set a {}": "1 array: a", "set a 1; array set a x": "1 dict: x", "array set a(x) {}": "1 array: a(x)", "array set x::a x": "1 namespace: ::x", "array exists x::a": "1 namespace: ::x", "array set a {x 1 xy 2 z 3}; array unset a x*; array get a": "z 3", "array set a {x 1}; array unset a; info exists a": "0", "array unset no": "", "set a 1; array unset a; set a": "1", "set a(x) 1; list [array exists a(x)] [array size a(x)] [array names a(x)] [array get a(x)]": "0 0 {} {}",
		"array set a(b {c d}; list [array get a(b] [info exists a(b] [array names a]": "{c d} 1 {}", "array get a b c": "1 words: array",
	})
	want := strings.Fields("apply array global info proc tailcall uplevel upvar")
	if !slices.Equal(Commands(), want) || len(New().Commands("*")) != 25+len(want) {
		t.Errorf("Commands = %q", Commands())
	}
}
