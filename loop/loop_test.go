package loop

import (
	"fmt"
	"slices"
	"strings"
	"testing"

	"threadbare/api"
	"threadbare/inout"
)

// does evaluates scripts, each in a new machine with and without faces, and compares what it tells: the code, if it is not 0, and the text.
func does(t *testing.T, cases map[string]string) {
	t.Helper()
	for script, want := range cases {
		for _, on := range []bool{true, false} {
			x := New()
			x.Faces(on)
			if got := told(x.Eval(script, 20000)); got != want {
				t.Errorf("%.90q: %.90q, not %.90q", script, got, want)
			}
		}
	}
}

func told(o api.Outcome) string {
	switch {
	case o.Code == api.COk:
		return o.Text
	case o.Code == api.CReturn:
		return fmt.Sprint(o.Code, ",", o.Then, " ", o.Text)
	}
	return fmt.Sprint(o.Code, " ", o.Text)
}

func rep(s string, n int) string { return strings.Repeat(s, n) }

// 31.1: commands
func TestCommands(t *testing.T) {
	does(t, map[string]string{
		"after 20 {lappend l b}; after 10 {lappend l a}; after 30 {set done 1}; vwait done; list $l [now]": "{a b} 30", "after 10 a; after idle b; after 5 { c } d": "after3", "after": "1 words: after", "after x": "1 number: x", "after x y": "1 number: x", "after 1000000000001 x": "1 range: 1000000000001", "after " + rep("9", 30) + " x": "1 range: " + rep("9", 30), "after " + rep("9", 601) + " x": "1 long", "after -5 {set x 1}; update; list $x [now]": "1 0", "after 5; now": "5", "after -5; now": "0", "after " + rep("9", 30) + "; now": "1000000000000", "after 1000000000000; after 1 x": "1 range: 1", "after 5 {set x 1}; after 5; info exists x": "0", "after 5 {set x 1}; after 5; update; set x": "1", "after idle": "1 words: after", "after cancel": "1 words: after", "after cancel x": "", "after 5 {set x 1}; after cancel after1; after 10; update; info exists x": "0", "after 5 a b; after idle {c  d}; list [after info] [after info after1] [after info after2]": "{after1 after2} {{a b} timer 5} {{c  d} idle}", "after info x": "1 after: x", "after info a b": "1 words: after", "after 0 [string repeat x 40000] [string repeat x 40000]": "1 long",
		"update x": "1 option: x", "update": "", "after 0 {lappend l t}; after idle {lappend l i}; update; set l": "t i", "after 0 {lappend l t}; after idle {lappend l i}; update idle; set l": "i", "after idle {lappend l 1; after idle {lappend l 3}}; after idle {lappend l 2}; update; set l": "1 2 3", "after 0 {lappend l 1; after 0 {lappend l 3}}; after 0 {lappend l 2}; update; set l": "1 2 3", "after 0 {error no}; after 0 {return x}; after 0 break; update; bgerrors": "no", "after 0 {error no}; update; bgerrors; bgerrors": "", "proc b args {lappend ::l $args}; set bgerror {b x}; after 0 {error no}; update; list $l [bgerrors]": "{{x no}} no", "set bgerror \\{; after 0 {error no}; update; bgerrors": "no", "set bgerror {error again}; after 0 {error no}; update; bgerrors": "no", "after 0 {while 1 {}}; update": "5 steps", "proc f {} {set x 1; after 0 {set x 2; set ::lv [info level]}; update; list $x $::lv}; list [f] $x": "{1 0} 2", "after 0 {}; update; steps": "19996", "after idle {after cancel after2}; after idle {set x 1}; update; info exists x": "0",
		"vwait x": "1 wait: x", "after 5 {set x 1}; vwait x; now": "5", "after 5 {incr i}; after 7 {unset i}; set i 1; vwait i; vwait i; now": "7", "set x 1; after 3 {set x 1}; vwait x; now": "3", "after 3 {set a(1) 1}; vwait a; now": "3", "set a(0) 1; after 3 {set a(1) 1}; vwait a": "1 wait: a", "after 3 {set a(1) 1}; vwait a(1); now": "3", "set a(1) 1; after 3 {unset a}; vwait a(1); now": "3", "set x 1; vwait x(1)": "1 array: x(1)", "vwait n::x": "1 namespace: ::n", "namespace eval n {after 3 {set ::n::x 1}; vwait n::x}; now": "3", "proc f {} {upvar #0 x y; set y 1}; after 3 f; vwait x; now": "3", "after 3 {while 1 {}}; vwait x": "5 steps", "after 1 {vwait y}; after 2 {set x 1}; after 3 {set y 1}; vwait x; now": "3", "proc f n {after 0 [list f [incr n]]; vwait q}; f 0; bgerrors": "1 wait: q", "vwait": "1 words: vwait", "proc f {} {set x 1; after 3 {set x 5}; vwait x; now}; f": "3",
		"now x": "1 words: now", "event no readable x": "1 channel: no", "event stdin x": "1 option: x", "event stdin readable {a b}": "a b", "event stdin readable {a b}; event stdin readable": "a b", "event stdin writable": "", "event stdin": "1 words: event", "lassign [pair] a b; event $b readable {lappend l [gets $b]}; puts $a one\\ntwo; flush $a; update; set l": "one two", "lassign [pair] a b; event $b readable {lappend l x}; puts $a one; flush $a; update; set l": "x", "lassign [pair] a b; event $b readable {lappend l x}; puts $a one; flush $a; update; update; set l": "x x", "lassign [pair] a b; event $b writable {lappend l w}; event $a writable {lappend l v}; update; set l": "v w", "lassign [pair] a b; event $b readable {lappend l x}; event $b readable {}; puts $a one; flush $a; update; info exists l": "0", "lassign [pair] a b; event $b readable {lappend l [read $b]}; close $a; update; set l": "{}", "lassign [pair] a b; event $b writable {lappend l x}; close $b; update; info exists l": "0", "file put /a x; set f [open /a]; event $f readable {lappend l [read $f]}; update; set l": "x", "lassign [pair] a b; event $b readable {lappend l c}; puts $a x; flush $a; after 0 {lappend l t}; after idle {lappend l i}; update; set l": "t c i c", "lassign [pair] a b; event $b readable {lappend l r}; event $b writable {lappend l w}; puts $a x; flush $a; update; set l": "r w", "lassign [pair] a b; event $b readable {lappend l x}; puts $a one; flush $a; event $b writable {if {[llength $l] < 3} {puts $a two; flush $a}}; update; set l": "x x",
		"clock format 951782400 %Y-%m-%dT%T": "2000-02-29T00:00:00", "clock scan 2000-02-29 %Y-%m-%d": "951782400", "clock add 0 1 day": "86400", "clock format x %Y": "1 number: x", "clock format 0 %q": "1 clock: %q", "clock format " + rep("9", 30) + " %Y": "1 clock: %Y", "clock scan x %Y": "1 clock: x", "clock add 0 1 x": "1 clock: x", "clock add 0 x y": "1 number: x", "clock add " + rep("9", 30) + " x y": "1 number: x", "clock": "1 words: clock", "clock x": "1 option: x", "clock format 0": "1 words: clock",
		"interp create c; interp eval c {after 5 {set x 1}}; after 10; update; list [interp eval c {info exists x}] [interp eval c now] [interp eval c {after 5; update; set x}]": "0 0 1", "interp create -safe c; interp eval c {after 0 {set x 1}; update; set x}": "1",
	})
}

// 31.1: from outside
func TestOutside(t *testing.T) {
	x := New()
	x.Eval("proc n {} {lappend ::l [now]}; after 10 n; after 30 n; after 20 {n; after 5 n}; after idle {lappend l idle}", 100)
	if d, ok := Due(x); d != 10 || !ok || Now(x) != 0 {
		t.Error("Due")
	}
	if o := Pass(x, -1, 100); o != (api.Outcome{}) || Now(x) != 0 {
		t.Error("Pass of less than nothing")
	}
	Pass(x, 0, 100)
	if s, _ := x.Get("l"); s != "idle" {
		t.Errorf("Pass of 0: %s", s)
	}
	if o := Pass(x, 29, 100); o.Code != 0 || Now(x) != 29 {
		t.Errorf("Pass: %v", o)
	}
	if s, _ := x.Get("l"); s != "idle 10 20 25" {
		t.Errorf("Pass: %s", s)
	}
	Pass(x, 1<<62, 100)
	if s, _ := x.Get("l"); s != "idle 10 20 25 30" || Now(x) != api.MaxTime {
		t.Errorf("Pass to the end: %s, %d", s, Now(x))
	}
	if d, ok := Due(x); d != 0 || ok {
		t.Error("Due of none")
	}
	y := New()
	y.Eval("after 1 {set a 1}; after 2 {set b 1}; after 3 {set c 1; set d 1}", 100)
	if o := Pass(y, 5, 5); o.Code != api.CStop || o.Text != "steps" || Now(y) != 3 {
		t.Errorf("Pass without steps: %v, %d", o, Now(y))
	}
	if _, e := y.Get("c"); e != api.ErrNone {
		t.Error("an event takes a step")
	}
	y.Eval("after 0 {set e 1}", 10)
	if did, o := Turn(y, 0); did || o.Code != api.CStop {
		t.Error("Turn without steps")
	}
	if did, o := Turn(y, 10); !did || o != (api.Outcome{}) {
		t.Error("Turn")
	}
	if did, o := Turn(y, 10); did || o != (api.Outcome{}) {
		t.Error("Turn of a quiet queue")
	}
	y.Eval("interp limit {} 3; after 0 {while 1 {}}; list", 10)
	if o := Pass(y, 0, 100); o != (api.Outcome{}) {
		t.Errorf("the machine's own limit: %v", o)
	}
	if o := Turns(y, 0); o != (api.Outcome{}) && o.Code != api.CStop {
		t.Errorf("Turns: %v", o)
	}
	if Now(nil) != 0 || Pass(nil, 5, 5) != (api.Outcome{}) {
		t.Error("a nil machine")
	}
	if did, o := Turn(nil, 5); did || o != (api.Outcome{}) {
		t.Error("Turn of a nil machine")
	}
	if _, ok := Due(nil); ok {
		t.Error("Due of a nil machine")
	}
}

// P31.5: pieces, and rounds
func TestFed(t *testing.T) {
	for _, pieces := range [][]string{{"one\ntwo\nthree\n"}, {"o", "ne\nt", "wo\nth", "ree\n"}, {"one\ntwo\nth", "ree\n"}} {
		x := New()
		x.Eval("event stdin readable {lappend l [gets stdin]}", 10)
		for _, p := range pieces {
			inout.Feed(x, "stdin", p)
			Turns(x, 100)
		}
		if s, _ := x.Get("l"); s != "one two three" {
			t.Errorf("%q: %q", pieces, s)
		}
	}
	x := New()
	x.Eval("event stdin readable {lappend l x}", 10)
	inout.Feed(x, "stdin", "a\n")
	for range 3 {
		Turn(x, 10)
	}
	if s, _ := x.Get("l"); s != "x x" {
		t.Errorf("a round ends with a turn that finds nothing: %q", s)
	}
	x.Eval("set l {}", 10)
	Pass(x, 5, 100)
	if s, _ := x.Get("l"); s != "x" {
		t.Errorf("a round lives on, and ends when the queue is quiet: %q", s)
	}
	want := strings.Fields("after bgerrors clock event now update vwait")
	if !slices.Equal(Commands(), want) || len(New().Commands("*")) != 104+len(want) {
		t.Errorf("Commands = %q", Commands())
	}
}
