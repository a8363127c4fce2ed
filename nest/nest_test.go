package nest

import (
	"fmt"
	"slices"
	"strings"
	"testing"

	"threadbare/api"
)

// does evaluates scripts, each in a new machine with and without faces, and compares what it tells: the code, if it is not 0, and the text.
func does(t *testing.T, cases map[string]string) {
	t.Helper()
	for script, want := range cases {
		for _, on := range []bool{true, false} {
			x := New()
			x.Faces(on)
			if got := told(x.Eval(script, 20000)); got != want {
				t.Errorf("%.90q: %.90q, not %.90q", script, got, want)
			}
		}
	}
}

func told(o api.Outcome) string {
	switch {
	case o.Code == api.COk:
		return o.Text
	case o.Code == api.CReturn:
		return fmt.Sprint(o.Code, ",", o.Then, " ", o.Text)
	}
	return fmt.Sprint(o.Code, " ", o.Text)
}

func rep(s string, n int) string { return strings.Repeat(s, n) }

const up = "interp create c; interp alias c up {} eval; "

// 28.1: children
func TestChildren(t *testing.T) {
	does(t, map[string]string{
		"interp create c; interp alias c up {} set; interp eval c {up x 5}; set x": "5", "interp": "1 words: interp", "interp x": "1 option: x", "interp create": "1 words: interp", "interp create c": "c", "interp create {c d}": "1 interp: c d", "interp create c; interp create {c {d e}}": "c {d e}", "interp create c; interp create c": "1 exists: c", "interp create {}": "1 exists: ", "interp create {{}}": "1 interp: {}", "interp create \\{": "1 list: {", "interp create a b": "1 words: interp", "interp create -safe c; interp issafe c": "1", "interp create -safe": "-safe", "interp create -safe c; interp create {c d}; interp issafe {c d}": "1", "interp issafe {}": "0", "interp issafe x": "1 interp: x",
		"for {set i 0} {$i < 21} {incr i} {interp create $i}": "1 long", "interp create 1; interp create {1 2}; interp create {1 2 3}; interp create {1 2 3 4}; interp create {1 2 3 4 5}; interp create {1 2 3 4 5 6}": "1 long", "interp exists {}": "1", "interp exists c": "0", "interp exists \\{": "1 list: {", "interp create b; interp create a; interp create {a z}; list [interp children {}] [interp children a] [interp exists {a z}]": "{a b} z 1", "interp children x": "1 interp: x", "interp children": "1 words: interp",
		"interp create c; interp eval c set x 1; interp eval c {set x}": "1", "interp create c; set x 1; interp eval c {set x}": "1 variable: x", "interp create c; interp eval c {return 5}": "2,0 5", "interp create c; interp eval c break": "3 ", "interp create c; interp eval c {error no}": "1 no", "interp create c; interp eval c list { a }": "a", "interp eval x list": "1 interp: x", "interp eval {} {set y 1}; set y": "1", "proc f {} {set y 1; interp eval {} {info level}}; f": "0", "interp create c; interp eval c": "1 words: interp", "interp create c; interp eval c {proc f {} {tailcall set z 1}; f; set z}": "1", "interp create c; interp eval c {namespace eval n {proc f {} {list nf}}}; interp eval c n::f": "nf",
		"interp create c; interp delete c; interp exists c": "0", "interp create c; interp create {c d}; interp delete {c d} c": "", "interp delete x": "1 interp: x", "interp delete {}": "1 interp: ", "interp create c; catch {interp delete c x}; interp exists c": "0", up + "catch {interp eval c {up interp delete c; up set done 1}} m; list $m [info exists done]": "deleted 0", up + "catch {interp eval c {catch {up {interp delete c}}; up set done 1}} m; list $m [info exists done]": "deleted 0", up + "interp eval c {up {interp delete c; set y 1}}": "1 deleted", up + "interp eval c {interp create d}; interp delete c; interp exists {c d}": "0", "interp create c; interp alias {} f c list; interp delete c; f": "1 command: f",
		"interp create c; interp eval c {while 1 {}}": "5 steps", "interp create c; interp eval c {set x 1}; list [catch {set x}] [info commands interp]": "1 interp",
	})
	deep := "info level"
	for range 40 {
		deep = "eval {" + deep + "}"
	}
	does(t, map[string]string{"interp create c; eval {eval {interp eval c {" + deep + "}}}": "0", "interp create c; proc f n {if {$n} {f [expr {$n - 1}]} else {interp eval c {" + deep + "}}}; f 40": "1 deep"})
}

// 28.1: aliases, hidden commands, limits
func TestReaching(t *testing.T) {
	does(t, map[string]string{
		"interp create c; interp alias c f {} list a {b c}": "::f", "interp create c; interp alias c f {} list a {b c}; interp eval c {f d}": "a {b c} d", "interp alias {} f {} set x; f 5; set x": "5", "interp alias {} set {} list; set a b": "a b", "interp alias {} f {} f; f": "5 steps", "interp alias {} f {} eval f; f": "1 deep", "interp alias {} n::f {} list": "1 namespace: ::n", "namespace eval n {}; interp alias {} n::f {} list a; n::f": "a", "interp alias {} f x list": "1 interp: x", "interp alias {} n::f x list": "1 namespace: ::n", "interp alias x f {} list": "1 interp: x", "interp alias {} f": "1 words: interp", "interp alias {} f {}; f list a": "a", "proc f {} {info level}; proc g {} {a}; interp alias {} a {} f; g": "1", "interp create c; interp create {c d}; interp alias {c d} f c set; interp eval {c d} {f x 1}; interp eval c {set x}": "1", "interp alias {} f {} error; catch f": "1", "interp alias {} f {} break; f": "3 ", "interp alias {} s {} steps; s": "19997", "namespace eval n {proc f {} {list nf}; interp alias {} a {} f; a}": "1 command: f",
		"interp alias {} b {} list; interp alias {} a {} list x {y z}; list [interp aliases {}] [interp target {} a] [interp target {} ::a]": "{::a ::b} {list x {y z}} {list x {y z}}", "interp target {} no": "1 alias: no", "interp target {} set": "1 alias: set", "interp alias {} a {} list; interp unalias {} a; a": "1 command: a", "interp unalias {} a": "1 alias: a", "interp alias {} a {} list; rename a b; list [interp aliases {}] [b x] [catch {interp target {} a}]": "::b x 1", "proc note args {lappend ::log $args}; proc f {} {}; trace add command f delete note; interp alias {} f {} list; set log": "{::f {} delete}",
		"interp create c; interp hide c set; interp eval c {set x 1}": "1 command: set", "interp create c; interp hide c set q; list [interp hidden c] [interp hidden {}]": "q {}", "interp hide {} no": "1 command: no", "interp hide {} set a; interp hide {} list a": "1 exists: a", "interp hide {} ::set; interp hidden {}": "set", "interp hide {} set; interp expose {} set; set x 1": "1", "interp hide {} set; interp expose {} set my; my x 1": "1", "interp expose {} no": "1 command: no", "interp hide {} set; interp expose {} set list": "1 exists: list", "interp hide {} set; interp expose {} set n::x": "1 namespace: ::n", "interp expose {} no n::x": "1 command: no", "interp create c; interp hide c set; interp invokehidden c set x 5; interp invokehidden c set x": "5", "interp invokehidden {} no": "1 command: no", "interp hide {} list; proc f {} {interp invokehidden {} list a; info level}; f": "1", "interp hide {} set; interp invokehidden {} set": "1 words: set", "interp create c; interp hide c incr; interp eval c {proc f {} {incr x}; f}": "1 command: incr",
		"interp create -safe c; interp eval c {interp hide {} set}": "1 safe: hide", "interp create -safe c; interp eval c {interp expose {} set}": "1 safe: expose", "interp create -safe c; interp eval c {interp invokehidden {} set}": "1 safe: invokehidden", "interp create -safe c; interp eval c {interp limit {} 5}": "1 safe: limit", "interp create -safe c; interp eval c {interp create d; interp hide d set; interp limit d 5; interp hidden d}": "set", "interp create -safe c; interp hide c set; interp eval c {rename list set; set a b}": "a b", "interp create -safe c; interp hidden c": "",
		"interp create c; interp limit c": "", "interp create c; interp limit c 5; interp limit c": "5", "interp create c; interp limit c 5; interp limit c {}; interp limit c": "", "interp create c; interp limit c 3; catch {interp eval c {set a 1; set b 2; set d 3; set e 4}} m; list $m [interp limit c] [interp eval c {}]": "limit 0 {}", "interp create c; interp limit c 3; interp eval c {catch {while 1 {}}; list a}": "1 limit", "interp create c; interp limit c 3; catch {interp eval c {try {while 1 {}} finally {set f 1}}}; interp limit c {}; interp eval c {info exists f}": "0", "interp create c; interp create {c d}; interp limit c 4; interp eval c {catch {interp eval d {while 1 {}}} m; list $m}": "1 limit", "interp create c; interp create {c d}; interp limit {c d} 4; interp eval c {catch {interp eval d {while 1 {}}} m; list $m}": "limit", up + "interp limit c 3; interp eval c {up {list; list; list; list; list a}}": "a", "interp create a; interp create {a b}; interp limit a 0; catch {interp eval {a b} set} m; set m": "limit", "interp create a; interp create {a b}; interp limit a 2; catch {interp eval {a b} {set x 1; catch {set x 2; set x 3}}} m; list $m [interp limit a]": "limit 0", "interp create a; interp create {a b}; interp create {a b c}; interp limit a 9; catch {interp eval {a b} {catch {interp eval c {while 1 {}}}; list here}} m; list $m [interp limit a]": "limit 0", "interp create a; interp create {a b}; interp create d; interp alias d go {a b} list; interp limit a 0; interp eval d {catch go m; set m}": "limit", "interp create a; interp create {a b}; interp hide {a b} list; interp limit a 0; catch {interp invokehidden {a b} list} m; set m": "limit", "interp create a; interp create {a b}; interp limit a 0; interp eval {a b} set": "1 limit", "interp create a; interp create {a b}; interp alias {a b} kill {} interp delete a; catch {interp eval {a b} {catch kill; set x 1}} m; set m": "deleted", "interp create a; interp create {a b}; interp alias {a b} go a list; interp limit a 2; interp eval {a b} {catch go; list here}": "1 limit",
		"interp limit {} 3; list; list; list a; list": "1 limit", "interp limit {} x": "1 number: x", "interp limit {} -1": "1 range: -1", "interp limit {} " + rep("9", 30): "1 range: " + rep("9", 30), "interp limit {} " + rep("9", 601): "1 long", up + "interp limit {} 20; interp eval c {catch {up {while 1 {}}}; list caught}": "1 limit",
		"interp create c; set v 1; interp share {} v c w; interp eval c {incr w}; set v": "2", "interp create c; interp share c v {} w; set w 5; interp eval c {set v}": "5", "interp create c; interp eval c {set w 1}; interp share {} v c w": "1 exists: w", "interp share {} v {} v": "1 circle: v", "interp create c; set v 1; interp share {} v(1) c w": "1 array: v(1)", "interp create c; interp share {} v c w(1)": "1 name: w(1)", "interp create c; interp share {} n::v c w": "1 namespace: ::n", "interp share {} v x w": "1 interp: x", "interp create c; interp share {} a(k) c w; interp eval c {set w 7}; set a(k)": "7", "interp create c; interp share {} v c w; proc n args {lappend ::log top}; trace add variable v write n; interp eval c {proc n args {lappend ::log child}; set w 1; set log}": "child",
		"interp create c; proc f {a {b 2}} {list $a $b}; interp transfer {} f c; interp eval c {f 1}": "1 2", "interp create c; interp transfer {} no c": "1 command: no", "interp create c; interp transfer {} set c": "1 proc: set", "proc f {} {}; interp transfer {} f x": "1 interp: x", "interp create c; namespace eval n {proc f {} {}}; interp transfer {} n::f c": "1 namespace: ::n", "interp create c; proc f {} {}; interp transfer {} f c": "",
	})
	if !slices.Equal(Commands(), []string{"interp"}) || len(Safe()) != 79 || !slices.IsSorted(Safe()) || !slices.Contains(Safe(), "interp") || slices.Contains(Safe(), "::set") {
		t.Errorf("Safe = %q", Safe())
	}
	x := New()
	x.Eval("interp create c; interp eval c {set v 1; namespace eval n {}; proc f {} {}}", 100)
	if x.Dump() != "" || len(x.Spaces()) != 1 || len(x.Commands("*")) != 79 {
		t.Error("a machine tells nothing of its children")
	}
	if api.OK != 0 {
		t.Error("OK")
	}
}
