package spaces

import (
	"fmt"
	"slices"
	"strings"
	"testing"

	"threadbare/api"
)

// does evaluates scripts, each in a new machine with and without faces, and compares what it tells: the code, if it is not 0, and the text.
func does(t *testing.T, cases map[string]string) {
	t.Helper()
	for script, want := range cases {
		for _, on := range []bool{true, false} {
			x := New()
			x.Faces(on)
			if got := told(x.Eval(script, 20000)); got != want {
				t.Errorf("%.90q: %.90q, not %.90q", script, got, want)
			}
		}
	}
}

func told(o api.Outcome) string {
	switch {
	case o.Code == api.COk:
		return o.Text
	case o.Code == api.CReturn:
		return fmt.Sprint(o.Code, ",", o.Then, " ", o.Text)
	}
	return fmt.Sprint(o.Code, " ", o.Text)
}

func rep(s string, n int) string { return strings.Repeat(s, n) }

// 26.1: namespaces
func TestNamespaces(t *testing.T) {
	does(t, map[string]string{
		"namespace": "1 words: namespace", "namespace x": "1 option: x", "namespace eval a": "1 words: namespace", "namespace eval a {namespace current}": "::a", "namespace eval a::b {}; list [namespace exists a] [namespace exists ::a::b] [namespace exists b]": "1 1 0", "namespace eval a {namespace eval b {namespace current}}": "::a::b", "namespace eval a {set x 1}; set a::x": "1", "namespace eval a {set x 1}; set x": "1 variable: x", "namespace eval a set x 1": "1", "namespace eval a {info level}": "1", "namespace eval a {info level 1}": "namespace eval a {info level 1}", "namespace eval a {error no}": "1 no", "namespace eval a {return 5}": "2,0 5", "namespace eval a break": "3 ", "set y 1; namespace eval a {set y}": "1 variable: y", "namespace eval :: {set x 1}; set x": "1",
		"namespace eval a {proc f {} {namespace current}}; a::f": "::a", "namespace eval a {proc f {} {g}; proc g {} {list g}}; a::f": "g", "proc g {} {list global}; namespace eval a {proc f {} {g}}; a::f": "global", "proc a::f {} {}": "1 namespace: ::a", "namespace eval a {proc f {} {set x 1; set ::a::y 2}}; a::f; list [catch {set a::x}] [set a::y]": "1 2", "namespace current": "::",
		"namespace parent": "", "namespace eval a {namespace parent}": "::", "namespace eval a::b {namespace parent}": "::a", "namespace parent ::x": "1 namespace: ::x", "namespace eval a::b {}; namespace parent a::b": "::a", "namespace eval a::b {}; namespace eval c {}; list [namespace children] [namespace children a] [namespace children :: c*]": "{::a ::c} ::a::b ::c", "namespace children x": "1 namespace: x", "namespace qualifiers ::a::b::c": "::a::b", "namespace qualifiers a": "", "namespace tail ::a::b": "b", "namespace tail a::": "",
		"namespace eval a {proc f {} {}; variable x 1}; namespace delete a; list [namespace exists a] [catch a::f m] $m [catch {set a::x} m] $m": "0 1 {command: a::f} 1 {namespace: ::a}", "namespace delete a": "1 namespace: a", "namespace eval a {}; catch {namespace delete a b}; namespace exists a": "1", "namespace eval a::b {}; namespace delete a a::b; namespace exists a": "0", "namespace delete": "", "namespace eval n {variable v 1}; upvar 0 n::v y; namespace delete n; namespace eval n {set v 5}; set y": "5", "namespace eval n {variable v 1}; upvar 0 n::v y; namespace delete n; info exists y": "0", "set g 1; namespace eval n {upvar #0 g y}; namespace delete n; set g": "1", "set g 1; namespace eval n {upvar #0 g y}; namespace delete n; namespace eval n {list [info vars] [set y 2] $::g}": "{} 2 1", "namespace eval n {global g}; set g 1; namespace delete n; namespace eval n {info exists g}": "0", "namespace eval a {set x 1}; namespace delete a; namespace eval a {info exists x}": "0", "set x 1; namespace eval a {}; catch {namespace delete ::}; set x": "1 command: set",
		"namespace eval a {proc f {} {namespace delete ::a; list [namespace current] [namespace exists ::a] [catch {set q::x} m] $m [catch {g} m] $m}; proc g {} {}}; a::f": "::a 0 1 {namespace: ::a::q} 1 {command: g}", "namespace eval a {namespace delete ::a; namespace path {}}": "1 namespace: ::a", "namespace eval a {namespace delete ::a; namespace export x}": "1 namespace: ::a", "namespace eval a {namespace delete ::a; list [catch {namespace path}] [catch {namespace export}] [catch {namespace unknown} m] $m}": "1 1 1 {namespace: ::a}", "namespace eval a {namespace delete ::a; namespace import x}": "1 namespace: ::a", "namespace eval a {namespace delete ::a; namespace unknown x}": "1 namespace: ::a", "namespace eval a {namespace delete ::a; namespace children}": "1 namespace: ::a", "namespace eval a {namespace delete ::a; variable x}": "1 namespace: ::a",
		"namespace eval a {proc f {} {list af}}; namespace eval b {namespace path ::a; f}": "af", "namespace eval a {}; namespace eval b {namespace path {::a ::}; namespace path}": "::a ::", "namespace path x": "1 namespace: x", "namespace path \\{": "1 list: {", "namespace eval a {proc f {} {list af}}; proc f {} {list f}; namespace path a; f": "f", "namespace path": "",
	})
}

// 26.1: imports
func TestImports(t *testing.T) {
	does(t, map[string]string{
		"namespace eval a {proc f {} {return 1}; namespace export f}; namespace import a::f; rename a::f a::g; f": "1", "namespace eval a {proc f {} {}}; namespace import a::f; f": "1 command: f", "namespace eval a {proc f {} {}; proc fg {} {}; proc h {} {}; namespace export f* h}; namespace import a::f*; list [info commands f] [info commands fg] [info commands h]": "f fg {}", "namespace import x::y": "1 namespace: ::x", "namespace eval a {proc set {} {}; namespace export *}; namespace import a::*": "1 exists: set", "namespace eval a {proc lset {} {list mine}; namespace export *}; namespace import -force a::*; lset": "mine", "namespace eval a {proc f {} {}; namespace export f}; namespace import a::f; namespace import a::f": "", "namespace eval a {proc f {} {list 1}; namespace export f}; namespace import a::f; rename a::f {}; f": "1 command: f", "namespace eval a {proc f {} {list 1}; namespace export f}; namespace import a::f; namespace delete a; f": "1 command: f", "namespace eval a {proc f {} {list 1}; namespace export f}; namespace eval b {namespace import ::a::f; namespace export f}; namespace import b::f; list [f] [namespace origin f] [namespace which f]": "1 ::a::f ::f", "namespace eval a {proc f {} {namespace current}; namespace export f}; namespace import a::f; f": "::a", "namespace export x; namespace import ::x": "", "proc f {} {}; namespace export f; namespace import f": "1 exists: f", "proc f {} {}; namespace export f; namespace import -force f": "1 exists: f",
		"namespace export a b; namespace export b c; namespace export": "a b c", "namespace export a; namespace export -clear b; namespace export": "b", "namespace export a; namespace export -clear; namespace export": "", "namespace eval a {proc f {} {}; proc g {} {}; namespace export *}; namespace import a::*; namespace forget a::f; list [info commands f] [info commands g]": "{} g", "namespace forget x::y": "1 namespace: ::x", "proc f {} {}; namespace eval a {namespace export *}; namespace forget a::*; info commands f": "f", "namespace origin no": "1 command: no", "namespace origin set": "::set", "namespace which no": "", "namespace eval a {proc f {} {}; namespace which f}": "::a::f", "rename set ::q; namespace which q": "::q", "namespace eval a {proc f {} {}; proc f2 {} {}; namespace export f; namespace export f2}; namespace import a::f; rename f g; namespace import a::f; list [namespace origin g] [catch {namespace origin f}]": "::a::f 0",
	})
}

// 26.1: unknown commands, ensembles, variables
func TestOthers(t *testing.T) {
	does(t, map[string]string{
		"namespace unknown {list u}; no a b": "u no a b", "namespace unknown": "", "namespace unknown {list u}; namespace unknown": "list u", "namespace unknown \\{": "1 list: {", "namespace unknown {list u}; namespace unknown {}; no": "1 command: no", "namespace unknown {list u}; namespace eval a {no x}": "u no x", "namespace unknown {list u}; namespace eval a {namespace unknown {list mine}; no x}": "mine no x", "namespace unknown nothing; no": "1 command: nothing", "namespace unknown {list u}; no; steps": "19996", "namespace eval a {proc h args {list a $args}; namespace unknown h; no 1}": "a {no 1}", "namespace eval a {namespace unknown h; proc f {} {no}}; proc h args {list g $args}; a::f": "g no",
		"namespace ensemble e {length {string length} list {} up {apply {x {list up$x}}}}; list [e length abc] [e le ab] [e u 5] [e list list q]": "3 2 up5 q", "namespace ensemble e {ab {list 1} ac {list 2}}; e a": "1 option: a", "namespace ensemble e {ab {list 1} ac {list 2}}; e x": "1 option: x", "namespace ensemble e {a {list 1} ab {list 2}}; e a": "1", "namespace ensemble e {}; e": "1 words: e", "namespace ensemble e {a {}}; e a": "", "namespace ensemble e a": "1 dict: a", "namespace ensemble e {a \\{}": "1 list: {", "namespace ensemble x::e {a b}": "1 namespace: ::x", "namespace ensemble x::e a": "1 dict: a", "namespace ensemble e {f f}; proc f args {info level 1}; e f x": "f x", "namespace eval a {proc f {} {list af}; namespace ensemble e {f f}}; rename a::e e; catch {e f} m; set m": "command: f", "namespace eval a {proc f {} {list af}; namespace ensemble e {f f}}; a::e f": "af", "namespace ensemble e {s steps}; e s": "19997", "namespace ensemble e {s set}; rename e d; d s x 1; set x": "1", "namespace ensemble e {a {e a}}; e a": "5 steps",
		"namespace eval a {variable x 5}; set a::x": "5", "namespace eval a {variable x 5; proc f {} {variable x; incr x}}; a::f; set a::x": "6", "namespace eval a {variable x 1 y 2 z; list [info exists z] $y}": "0 2", "variable x 1; set x": "1", "proc f {} {variable x 3; info locals}; f; set x": "3", "proc f {} {variable x 3; info locals}; f": "", "namespace eval a {}; proc f {} {variable a::x 3; set x 4}; f; set a::x": "4", "variable q::x": "1 namespace: ::q", "variable a(1) 2": "1 name: a(1)", "proc f x {variable x}; f 1": "1 exists: x", "variable": "1 words: variable", "namespace eval a {set x(1) 1; variable x 2}": "1 array: x", "namespace eval a {variable x 1}": "", "namespace eval :: {global ::}": "1 circle: ::", "namespace eval :: {global a::b}": "1 circle: a::b", "namespace eval :: {set b 1; global a::b}": "1 exists: a::b", "namespace eval : {namespace eval t {eval {append q}}\nglobal ::}": "1 circle: ::", "namespace eval n {namespace eval m {upvar 1 x x}; variable m::x}": "1 circle: m::x", "namespace eval a {proc f {} {variable y; set y 1; info vars}}; a::f": "y",
		"proc f {} {upvar 0 a::x y; set y 1}; f": "1 namespace: ::a", "namespace eval a {}; proc f {} {upvar #0 a::x y; set y 1}; f; set a::x": "1", "namespace eval a {proc f {} {upvar 1 x y; set y 1}; f}; set a::x": "1",
	})
	for _, c := range []struct {
		word, keys, want string
		e                api.Errno
	}{{"a", "ab c", "ab", 0}, {"a", "ab ac", "", api.ErrDuplicate}, {"x", "ab", "", api.ErrNone}, {"ab", "abc ab", "ab", 0}, {"a", "ab ab", "", api.ErrDuplicate}, {"", "a", "a", 0}, {"", "", "", api.ErrNone}, {"ab", "ab ab", "ab", 0}} {
		if s, e := Chosen(c.word, strings.Fields(c.keys)); s != c.want || e != c.e {
			t.Errorf("Chosen(%q, %q) = %q, %d", c.word, c.keys, s, e)
		}
	}
	for path, want := range map[string]string{"a::b": "a", "::a:::b": "::a", "a": "", "::a": "", "a::": "a", "": ""} {
		if got := Qualifiers(path); got != want {
			t.Errorf("Qualifiers(%q) = %q", path, got)
		}
	}
	x := New()
	x.Eval("namespace eval a::b {set x 1}; namespace eval c {}", 100)
	if got := strings.Join(x.Spaces(), " "); got != ":: ::a ::a::b ::c" || x.Dump() != "::a::b {x {s 1}}" {
		t.Errorf("Spaces = %s, Dump = %s", got, x.Dump())
	}
	if !slices.Equal(Commands(), []string{"namespace", "variable"}) || len(New().Commands("*")) != 77 {
		t.Errorf("Commands = %q", Commands())
	}
}
