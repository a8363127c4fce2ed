package shelf

import (
	"fmt"
	"slices"
	"strings"
	"testing"

	"threadbare/api"
)

// does evaluates scripts, each in a new machine with and without faces, and compares what it tells: the code, if it is not 0, and the text.
func does(t *testing.T, cases map[string]string) {
	t.Helper()
	for script, want := range cases {
		for _, on := range []bool{true, false} {
			x := New()
			x.Faces(on)
			if got := told(x.Eval(script, 20000)); got != want {
				t.Errorf("%.90q: %.90q, not %.90q", script, got, want)
			}
		}
	}
}

func told(o api.Outcome) string {
	switch {
	case o.Code == api.COk:
		return o.Text
	case o.Code == api.CReturn:
		return fmt.Sprint(o.Code, ",", o.Then, " ", o.Text)
	}
	return fmt.Sprint(o.Code, " ", o.Text)
}

func rep(s string, n int) string { return strings.Repeat(s, n) }

// 32.1: packages
func TestPackages(t *testing.T) {
	does(t, map[string]string{
		"package": "1 words: package", "package x": "1 option: x", "package provide": "1 words: package", "package provide a": "", "package provide a 1.0; package provide a": "1.0", "package provide a x": "1 version: x", "package provide a 1; package provide a 1.0; package provide a": "1", "package provide a 1; package provide a 2": "1 version: a",
		"package ifneeded a 1 {x}; package ifneeded a 1.0": "x", "package ifneeded a 1": "", "package ifneeded a x y": "1 version: x", "package ifneeded a 1 x; package ifneeded a 1.0 y; list [package versions a] [package ifneeded a 1]": "1.0 y", "package ifneeded a": "1 words: package",
		"package ifneeded a 1 {set ::n 1; package provide a 1}; list [package require a] $n": "1 1", "package ifneeded a 1 {incr ::n; package provide a 1}; package require a; package require a 1; set n": "1", "package require a": "1 package: a", "package require a x": "1 requirement: x", "package require a 1 x": "1 requirement: 1 x", "package ifneeded a 1 {}; package require a": "1 provide: a", "package ifneeded a 1 {package provide a 2}; package require a": "1 provide: a", "package ifneeded a 1 {package provide a 1.0}; package require a": "1.0", "package ifneeded a 1 {error no}; package require a": "1 no", "package ifneeded a 1 {package provide a 1; return x}; package require a": "1", "package ifneeded a 1 break; package require a": "3 ", "package ifneeded a 1 {package require a}; package require a": "1 circle: a", "package ifneeded a 1 {package require b}; package ifneeded b 1 {package require a}; package require a": "1 circle: a", "package ifneeded a 1 {package require a 2}; package require a": "1 package: a", "package ifneeded a 1 {error no}; catch {package require a}; catch {package require a} m; set m": "no", "package provide a 1.5; list [package require a 1] [catch {package require a 2} m] $m": "1.5 1 {version: a}", "package ifneeded a 1 {package provide a 1}; package ifneeded a 1.5 {package provide a 1.5}; package ifneeded a 2b1 {package provide a 2b1}; package require a": "1.5", "package prefer latest; package ifneeded a 1 {package provide a 1}; package ifneeded a 2b1 {package provide a 2b1}; package require a": "2b1", "package ifneeded a 1 {package provide a 1}; package ifneeded a 2 {package provide a 2}; package require a 1 3-": "1", "proc f {} {set x 1; package ifneeded a 1 {set x 2; package provide a 1}; package require a; set x}; list [f] $x": "1 2", "namespace eval n {package ifneeded a 1 {set ::s [namespace current]; package provide a 1}; package require a; set ::s}": "::",
		"package present a": "1 package: a", "package present a x": "1 requirement: x", "package provide a 1; package present a 1": "1", "package provide a 1; package present a 2": "1 version: a", "package names": "csv queue sets tally", "package provide a 1; package forget csv; package names": "a queue sets tally", "package versions csv": "1.1", "package versions no": "", "package ifneeded a 1.10 x; package ifneeded a 1.9 x; package versions a": "1.9 1.10", "package require sets; package forget sets; package require sets": "1 package: sets", "package forget": "", "package satisfies 1.5 1": "1", "package satisfies 1.5 2 1.6 =1.5": "1", "package satisfies 2 1": "0", "package satisfies 1": "1", "package satisfies x y": "1 version: x", "package satisfies 1 y": "1 requirement: y", "package prefer": "stable", "package prefer latest; package prefer": "latest", "package prefer latest; package prefer stable; package prefer": "stable", "package prefer x": "1 option: x", "package prefer latest": "latest", "package prefer stable": "stable", "package prefer latest; package prefer stable": "stable", "package prefer latest; catch {package prefer {}} m; list $m [package prefer]": "{option: } latest", "package prefer latest stable": "1 words: package", "package names x": "1 words: package",
		"interp create -safe c; interp eval c {package require sets; sets::of a b a}": "a b", "interp create c; package provide a 1; interp eval c {package provide a}": "",
	})
}

// 32.1: the library
func TestLibrary(t *testing.T) {
	does(t, map[string]string{
		"package require tally; tally::count {a b a}": "a 2 b 1", "package require tally; list [tally::most {a b a}] [tally::kinds {a b a}] [package present sets]": "a 2 1.0", "package require csv; csv::fields {a,\"b,c\"}": "a b,c", "package require csv; list [csv::line {a {b,c} {d\"e} {}}] [csv::fields [csv::line [list a b,c d\\\"e {} x\\ny]]]": "{a,\"b,c\",\"d\"\"e\",} {a b,c {d\"e} {} {x\ny}}", "package require csv": "1.1", "package require queue; set q [queue::new]; queue::put $q a b; queue::put $q c; list [queue::get $q] [queue::size $q] [queue::get $q] [queue::get $q] [catch {queue::get $q} m] $m $q [queue::new]": "a 2 b c 1 empty ::queue::q1 ::queue::q2",
		"package require sets; list [sets::of a b a] [sets::has {a b} a] [sets::has {a b} c] [sets::add {a} b a] [sets::drop {a b c} b] [sets::union {a b} {b c} {d}] [sets::meet {a b c} {c b} {b}] [sets::less {a b c} {b}] [sets::same {a b} {b a}] [sets::same {a} {b}]": "{a b} 1 0 {a b} {a c} {a b c d} b {a c} 1 0", "package require sets; list [llength [sets::subsets {a b c d}]] [sets::subsets {a b}]": "16 {{} a b {a b}}",
	})
	if !slices.Equal(Library(), []string{"csv", "queue", "sets", "tally"}) {
		t.Error("Library")
	}
	for _, name := range Library() {
		s, e := Source(name)
		last := s[strings.LastIndexByte(s, '\n')+1:]
		if e != 0 || last != "package provide "+name+" "+versionOf(name) {
			t.Errorf("Source(%s) ends with %q", name, last)
		}
	}
	if s, e := Source("no"); s != "" || e != api.ErrName {
		t.Error("Source of none")
	}
	if !slices.Equal(Commands(), []string{"package"}) || len(New().Commands("*")) != 112 {
		t.Errorf("Commands = %q, %d", Commands(), len(New().Commands("*")))
	}
}
