package traces

import (
	"fmt"
	"slices"
	"strings"
	"testing"

	"threadbare/api"
)

// does evaluates scripts, each in a new machine with and without faces, and compares what it tells: the code, if it is not 0, and the text.
func does(t *testing.T, cases map[string]string) {
	t.Helper()
	for script, want := range cases {
		for _, on := range []bool{true, false} {
			x := New()
			x.Faces(on)
			if got := told(x.Eval(script, 20000)); got != want {
				t.Errorf("%.90q: %.90q, not %.90q", script, got, want)
			}
		}
	}
}

func told(o api.Outcome) string {
	switch {
	case o.Code == api.COk:
		return o.Text
	case o.Code == api.CReturn:
		return fmt.Sprint(o.Code, ",", o.Then, " ", o.Text)
	}
	return fmt.Sprint(o.Code, " ", o.Text)
}

func rep(s string, n int) string { return strings.Repeat(s, n) }

const note = "proc note args {lappend ::log $args; list}; "

// 27.1: variables
func TestVariables(t *testing.T) {
	does(t, map[string]string{
		"trace add variable x write {lappend log}; set x 5; set log": "x {} write", note + "trace add variable x write note; set x 1; incr x; append x 2; set log": "{x {} write} {x {} write} {x {} write}", note + "trace add variable x read note; set x 1; list $x [set x]; incr x; set log": "{x {} read} {x {} read} {x {} read}", note + "trace add variable x unset note; set x 1; unset x; set x 2; unset x; set log": "{x {} unset}", note + "trace add variable a {write read} note; set a(1) 1; set a(1); set log": "{a 1 write} {a 1 read}", note + "trace add variable a(1) write {note e}; trace add variable a write {note a}; set a(1) 1; set a(2) 1; set log": "{a a 1 write} {e a 1 write} {a a 2 write}", note + "trace add variable x write {note 1}; trace add variable x write {note 2}; set x 1; set log": "{2 x {} write} {1 x {} write}",
		note + "trace add variable a unset {note a}; trace add variable a(1) unset {note e}; set a(1) 1; set a(2) 2; unset a; set log": "{a a {} unset}", note + "trace add variable a unset {note a}; trace add variable a(1) unset {note e}; set a(1) 1; unset a(1); set a(1) 2; unset a(1); set log": "{a a 1 unset} {e a 1 unset} {a a 1 unset}", note + "trace add variable a(1) write note; set a(1) 1; unset a; set a(1) 2; set log": "{a 1 write}", note + "trace add variable a(1) write note; set a 1; unset a; set a(1) 2; info exists log": "0",
		"trace add variable x read {set x 7 ;}; set x": "1 trace: words: set", "proc r args {set ::x 7}; trace add variable x read r; set x": "7", "proc r args {set ::x 7}; trace add variable x read r; list $x": "7", "proc r args {unset ::x}; set x 1; trace add variable x read r; set x": "1 variable: x", "proc w args {set ::x 9}; trace add variable x write w; set x 5": "9", "proc w args {unset ::x}; trace add variable x write w; set x 5": "", "proc w args {error no}; trace add variable x write w; catch {set x 5} m; list $m $x": "{trace: no} 5", "trace add variable x read {error}; set x 1; set x": "1 trace: words: error", "proc w args {return -code break q}; trace add variable x write w; set x 5": "1 trace: q", "proc u args {error no}; trace add variable x unset u; set x 1; unset x": "", "trace add variable x write {while 1 {} ;}; set x 1": "1 trace: words: while",
		note + "trace add variable x write note; proc f {} {upvar 1 x y; set y 5}; f; set log": "{y {} write}", note + "proc f {} {upvar 1 x y; trace add variable y write note}; f; set x 1; set log": "{x {} write}", note + "namespace eval n {variable v}; trace add variable n::v write note; set ::n::v 1; set log": "{::n::v {} write}", note + "trace add variable x write note; foreach x {1 2} {}; lappend x 3; lset x 0 q; lassign 5 x; set log": strings.TrimSpace(rep("{x {} write} ", 5)), note + "trace add variable a read note; array set a {1 2 3 4}; array get a; array names a; array size a; info exists a(1); set log": "{a 1 read} {a 3 read}", note + "trace add variable x {read write} note; proc f {} {upvar 1 x y; info exists y}; f; info exists log": "0", note + "trace add variable a read note; set a(1) 1; catch {set a}; set log": "{a {} read}", note + "proc f {} {trace add variable x unset note; set x 1}; f; info exists log": "0", note + "namespace eval n {variable v 1}; trace add variable n::v unset note; namespace delete n; set log": "{v {} unset}",
		"proc once args {trace remove variable ::x write once; lappend ::log 1; list}; trace add variable x write once; set x 1; set x 2; set log": "1", "proc both args {lappend ::log b; trace remove variable ::x write one; list}; proc one args {lappend ::log 1; list}; trace add variable x write one; trace add variable x write both; set x 1; set log": "b", "proc w args {incr ::x; list}; trace add variable x write w; set x 1": "2", "trace add variable x write nop; set x 1; steps": "19996", "trace add variable x {read write} nop; incr x; append x 1": "11", "set x 1; trace add variable x read nop; rename nop {}; set x": "1 trace: command: nop",
		"trace add variable x {write read write} nop; trace add variable x unset {nop a}; trace info variable x": "{unset {nop a}} {{write read} nop}", "trace info variable x": "", "trace add variable x {read write} nop; trace add variable x write nop; trace remove variable x {write read} nop; trace info variable x": "{write nop}", "trace remove variable x write nop": "", "trace add variable x write nop; trace remove variable x write { nop}; trace info variable x": "{write nop}", "trace add variable x write nop; trace add variable x write nop; trace remove variable x write nop; trace info variable x": "{write nop}",
		"trace": "1 words: trace", "trace x": "1 option: x", "trace add": "1 words: trace", "trace add x": "1 option: x", "trace add variable x": "1 words: trace", "trace info variable x y z": "1 words: trace", "trace add variable x {} nop": "1 list: ", "trace add variable x \\{ nop": "1 list: {", "trace add variable x {read q} \\{": "1 option: q", "trace add variable x read \\{": "1 list: {", "trace add variable n::x q nop": "1 namespace: ::n", "set x 1; trace add variable x(1) q nop": "1 array: x(1)", "trace remove variable x q nop": "1 option: q", "trace add command no q nop": "1 command: no", "trace add command set write nop": "1 option: write",
	})
}

// 27.1: an element's word of what is no array does no trace of it
func TestReadOfNoElement(t *testing.T) {
	does(t, map[string]string{
		note + "set a 4; trace add variable a read note; catch {list $a()} m; list $m [info exists log]":                                                          "{array: a()} 0",
		note + "set a 4; trace add variable a read note; catch {incr a(x)} m; list $m [info exists log]":                                                          "{array: a(x)} 0",
		"set a 4; trace add variable a read no; list $a()":                                                                                                        "1 array: a()",
		note + "trace add variable a read note; catch {list $a(x)} m; list $m $log":                                                                               "{variable: a(x)} {{a x read}}",
		note + "upvar 0 b(1) a; trace add variable b read note; trace add variable a read note; catch {set a(x)} m; list $m [info exists log]":                    "{array: a(x)} 0",
		note + "trace add variable a(1) read {note e}; trace add variable a read {note a}; upvar 0 a(1) y; catch {set y}; set a 5; catch {set y} m; list $m $log": "{array: y} {{a y {} read} {e y {} read} {e y {} read}}",
	})
}

// 27.1: unset traces are all done, whatever their outcomes
func TestUnsetTracesAllDone(t *testing.T) {
	does(t, map[string]string{
		note + "trace add variable x unset note; trace add variable x unset no; trace add variable x unset {error no ;}; set x 7; unset x; set log":          "{x {} unset}",
		note + "trace add variable a unset {note 1}; trace add variable a unset no; trace add variable a(1) unset {note 2}; set a(1) 7; unset a(1); set log": "{1 a 1 unset} {2 a 1 unset}",
		note + "namespace eval n {variable v 1}; trace add variable n::v unset note; trace add variable n::v unset no; namespace delete n; set log":          "{v {} unset}",
		note + "proc b args {return -code break}; trace add variable x unset note; trace add variable x unset b; set x 7; unset x; set log":                  "{x {} unset}",
		note + "trace add variable x write {note 1}; trace add variable x write no; catch {set x 7} m; list $m [info exists log]":                            "{trace: command: no} 0",
		note + "trace add variable x unset {note 1}; trace add variable x unset {note 2}; set x 1; rename note {}; unset x; trace info variable x":           "",
		note + "proc f {} {}; trace add command f delete {note 1}; trace add command f delete no; rename f {}; set log":                                      "{1 ::f {} delete}",
	})
	for _, c := range []struct {
		setup, script, then, want string
		steps                     int
	}{
		{"set x 7; trace add variable x unset {p 1}; trace add variable x unset {p 2}", "unset x", "", "5 steps", 2},
		{"set x 7; trace add variable x unset {p 1}; trace add variable x unset {p 2}", "unset x", "", "", 3},
		{"set x 7; trace add variable x unset {p 1}; trace add variable x unset {p 2}", "namespace delete ::", "", "5 steps", 2},
		{"set n 7; trace add variable n {write unset} {p 1}", "unset n", "set n 0", "1 trace: command: p", 1},
		{"set n 7; trace add variable n {write unset} {p 1}", "unset n", "set n 0", "0", 2},
		{"set a(1) 7; trace add variable a unset {p 1}; trace add variable a(1) write {p 2}", "unset a", "set a(1) 0", "1 trace: command: p", 1},
		{"set a(1) 7; trace add variable a unset {p 1}; trace add variable a(1) write {p 2}", "unset a", "set a(1) 0", "0", 2},
	} {
		x := New()
		x.Eval(c.setup, 100)
		o := x.Eval(c.script, c.steps)
		if c.then != "" {
			o = x.Eval(c.then, 100)
		}
		if told(o) != c.want {
			t.Errorf("%s; %s (%d): %s, not %s", c.setup, c.script, c.steps, told(o), c.want)
		}
	}
}

// 27.1: the traces of what is unset go behind their being done
func TestTracesGoBehind(t *testing.T) {
	does(t, map[string]string{
		"proc u args {trace remove variable ::x unset v; list}; proc v args {set ::m 1}; set x 1; trace add variable x unset v; trace add variable x unset u; unset x; info exists m":                                            "0",
		"proc u args {lappend ::l [trace info variable ::x]}; trace add variable x unset u; trace add variable x {read unset} u; set x 1; unset x; list $l [trace info variable x]":                                              "{{{{read unset} u} {unset u}} {{{read unset} u} {unset u}}} {}",
		"proc u args {lappend ::l [trace info variable ::a(1)]}; trace add variable a unset u; trace add variable a(1) read nop; set a(1) 1; unset a; list $l [trace info variable a(1)]":                                        "{{{read nop}}} {}",
		"proc u args {trace add variable ::x write w; trace add variable ::x unset w}; proc w args {lappend ::l $args; list}; trace add variable x unset u; set x 1; unset x; set x 2; unset x; list $l [trace info variable x]": "{{x {} write} {x {} unset}} {}",
		"proc r args {unset ::x; set ::x 2}; proc q args {set ::done 1}; trace add variable x read q; trace add variable x read r; set x 1; list [set x] [info exists done] [trace info variable x]":                             "2 0 {}",
		"proc e args {rename f {}; list}; proc q args {set ::done 1; list}; proc f {} {}; trace add execution f enter q; trace add execution f enter e; catch f m; list $m [info exists done]":                                   "{command: f} 0",
		"proc e args {rename f {}; list}; proc q args {set ::done 1; list}; proc f {} {list a}; trace add execution f leave q; trace add execution f leave e; list [f] [info exists done]":                                       "a 0",
		"proc e args {rename g {}; list}; proc q args {set ::done 1; list}; proc f {} {list a}; trace add command f {rename delete} q; trace add command f rename e; rename f g; list [info exists done] [info commands g]":      "0 {}",
	})
}

// 27.1: a deleted namespace unsets what is set alone
func TestTracesOfADeletedNamespace(t *testing.T) {
	does(t, map[string]string{
		"namespace eval n {variable v}; trace add variable n::v read {lappend log}; namespace delete n; namespace eval n {}; trace info variable n::v":                                                                                                            "{read {lappend log}}",
		"namespace eval n {variable v 1}; trace add variable n::v read {lappend log}; namespace delete n; namespace eval n {}; trace info variable n::v":                                                                                                          "",
		note + "namespace eval n {variable v}; trace add variable n::v unset note; namespace delete n; list [info exists log]":                                                                                                                                    "0",
		"namespace eval n {variable a; set a(1) 1}; trace add variable n::a(2) write {lappend log}; namespace delete n; namespace eval n {}; trace info variable n::a(2)":                                                                                         "",
		"proc u args {set ::n::w 1}; namespace eval n {variable v 1 w}; trace add variable n::v unset u; trace add variable n::w {write unset} {lappend ::log}; namespace delete n; namespace eval n {}; list [info exists n::w] $log [trace info variable n::w]": "0 {::n::w {} write} {}",
	})
	x := New()
	x.Eval("trace add variable x read }", 1)
	if got := told(x.Eval("namespace delete :\n$x", 1)); got != "5 steps" {
		t.Error(got)
	}
}

// 27.1: the command that stands in the place of one that went can be done by its delete traces
func TestDefinedAnew(t *testing.T) {
	does(t, map[string]string{
		"namespace eval n {proc f {} {}}; proc d args {lappend ::log [n::f]}; trace add command n::f delete d; namespace eval n {proc f {} {namespace current}}; set log":                                                        "::n",
		"namespace eval n {proc f {} {}; proc g {} {list ng}}; proc g {} {list g}; proc d args {lappend ::log [n::f one]}; trace add command n::f delete d; namespace eval n {namespace ensemble f {one g}}; list $log [n::f o]": "ng ng",
	})
}

// 27.1: commands
func TestCommandTraces(t *testing.T) {
	does(t, map[string]string{
		note + "proc f {} {}; trace add command f {rename delete} note; rename f g; rename g {}; set log": "{::f ::g rename} {::g {} delete}", note + "proc f {} {}; trace add command f delete note; proc f {} {}; set log": "{::f {} delete}", note + "proc f {} {}; trace add command f delete note; proc f {} {}; proc f {} {}; llength $log": "1", note + "namespace eval n {proc f {} {}}; trace add command n::f delete note; namespace delete n; set log": "{::n::f {} delete}", note + "namespace eval n {proc f {} {}; namespace export f}; namespace import n::f; trace add command f delete {note i}; trace add command n::f delete {note o}; rename n::f {}; set log": "{o ::n::f {} delete} {i ::f {} delete}", "proc e args {error no}; proc f {} {}; trace add command f rename e; rename f g": "", "proc f {} {}; trace add command f {rename delete} nop; trace info command f": "{{rename delete} nop}", "proc f {} {}; trace add command f delete nop; trace remove command f delete nop; trace info command f": "",
		note + "proc f x {list r$x}; trace add execution f {enter leave} note; f 1; set log": "{{f 1} enter} {{f 1} 0 r1 leave}", "proc e args {error no}; proc f {} {set ::done 1}; trace add execution f enter e; catch f m; list $m [info exists done]": "no 0", "proc e args {return -code 3 q}; proc f {} {}; trace add execution f leave e; f": "3 q", note + "proc f {} {error no}; trace add execution f leave note; catch f; set log": "{f 1 no leave}", note + "proc f n {if {$n} {f [expr {$n - 1}]}}; trace add execution f enter note; f 2; set log": "{{f 2} enter} {{f 1} enter} {{f 0} enter}", note + "proc f {} {list x}; trace add execution f leave note; rename f g; g; set log": "{g 0 x leave}", note + "proc f {} {rename f {}}; trace add execution f leave note; f; info exists log": "0", note + "proc f {} {tailcall g}; proc g {} {list gx}; trace add execution f leave note; list [f] $log": "gx {{f 0 gx leave}}", note + "proc f {} {}; trace add execution f enter {note 1}; trace add execution f enter {note 2}; f; set log": "{2 f enter} {1 f enter}", "proc e args {f; lappend ::log e; list}; proc f {} {lappend ::log f}; trace add execution f {enter leave} e; f; set log": "f e f f e", note + "trace add execution set enter note; set x 1; namespace eval n {set y 2}; set log": "{{set x 1} enter} {{set y 2} enter} {{set log} enter}", "proc f {} {}; trace add execution f enter nop; trace info execution f": "{enter nop}", note + "proc f {} {}; trace add execution f enter note; trace remove execution f enter note; f; info exists log": "0",
		"trace add variable x write deep; proc deep args {set ::y 1; eval {eval {eval {eval list}}}}; set x 1": "1", "proc f n {if {$n == 0} {set ::x 1} else {f [expr {$n - 1}]}}; trace add variable x write nop; f 48; eval {f 48}": "1 trace: deep",
	})
	x := New()
	x.Eval("trace add variable x {read write} {set log}", 100)
	if x.Set("x", "1") != 0 {
		t.Error("Set")
	}
	if s, e := x.Get("x"); s != "1" || e != 0 {
		t.Error("Get")
	}
	if _, e := x.Get("log"); e != api.ErrNone {
		t.Error("Go's Get and Set do no traces")
	}
	for _, c := range []struct {
		kind, ops, want string
		e               api.Errno
	}{{"variable", "write read write", "write read", 0}, {"command", "rename delete", "rename delete", 0}, {"execution", "leave enter", "leave enter", 0}, {"x", "{", "", api.ErrName}, {"variable", "{", "", api.ErrSyntax}, {"variable", "", "", api.ErrSyntax}, {"variable", "rename", "", api.ErrRange}, {"execution", "read", "", api.ErrRange}} {
		l, e := Operations(c.kind, c.ops)
		if strings.Join(l, " ") != c.want || e != c.e {
			t.Errorf("Operations(%s, %s) = %q, %d", c.kind, c.ops, l, e)
		}
	}
	if !slices.Equal(Commands(), []string{"trace"}) || len(New().Commands("*")) != 78 {
		t.Errorf("Commands = %q", Commands())
	}
}
