package dicts

import (
	"fmt"
	"slices"
	"strings"
	"testing"

	"threadbare/api"
)

// does evaluates scripts, each in a new machine with and without faces, and compares what it tells: the code, if it is not 0, and the text.
func does(t *testing.T, cases map[string]string) {
	t.Helper()
	for script, want := range cases {
		for _, on := range []bool{true, false} {
			x := New()
			x.Faces(on)
			if got := told(x.Eval(script, 20000)); got != want {
				t.Errorf("%.90q: %.90q, not %.90q", script, got, want)
			}
		}
	}
}

func told(o api.Outcome) string {
	switch {
	case o.Code == api.COk:
		return o.Text
	case o.Code == api.CReturn:
		return fmt.Sprint(o.Code, ",", o.Then, " ", o.Text)
	}
	return fmt.Sprint(o.Code, " ", o.Text)
}

func rep(s string, n int) string { return strings.Repeat(s, n) }

// 24.1: what reads
func TestReading(t *testing.T) {
	does(t, map[string]string{
		"dict": "1 words: dict", "dict x": "1 option: x", "dict create a 1 b 2 a 3": "a 3 b 2", "dict create a": "1 words: dict", "dict create": "", "dict create a [string repeat x 65536]": "1 long",
		"dict get {a {b 1}} a b": "1", "dict get { a  1 }": "a 1", "dict get {a 1} b": "1 key: b", "dict get {a {b 1}} c d": "1 key: c", "dict get {a x} a b": "1 dict: x", "dict get a b": "1 dict: a", "dict get a": "1 dict: a", "dict get": "1 words: dict", "dict exists {a {b 1}} a b": "1", "dict exists {a 1} b": "0", "dict exists {a x} a b": "0", "dict exists a b": "1 dict: a", "dict exists {a 1}": "1", "dict getor {a {b 1}} a b z": "1", "dict getor {a 1} b z": "z", "dict getor {a x} a b z": "z", "dict getor a b z": "1 dict: a", "dict getor a b": "1 words: dict",
		"dict size {a 1 b 2 a 3}": "2", "dict size a": "1 dict: a", "dict keys {ab 1 b 2}": "ab b", "dict keys {ab 1 b 2} a*": "ab", "dict values {a 1 b {2 3}}": "1 {2 3}", "dict values {a 1 b 2} 2": "2", "dict keys a": "1 dict: a", "dict values a": "1 dict: a", "dict merge {a 1} {b 2 a 3}": "a 3 b 2", "dict merge": "", "dict merge {a 1} b": "1 dict: b", "dict remove {a 1 b 2} a c": "b 2", "dict remove a": "1 dict: a", "dict replace {a 1 b 2} b 3 c 4": "a 1 b 3 c 4", "dict replace {a 1} b": "1 words: dict", "dict replace a b c": "1 dict: a", "dict invert {a 1 b 2 c 1}": "1 c 2 b", "dict invert a": "1 dict: a", "dict alike {a 1 b 2} {b 2 a 1}": "1", "dict alike a {}": "0", "dict alike a": "1 words: dict",
		"dict filter {ab 1 b 2} key a*": "ab 1", "dict filter {ab 1 b 2} value 2": "b 2", "dict filter {a 1 b 2} script {k v} {expr {$v > 1}}": "b 2", "dict filter {a 1 b 2 c 3} script {k v} {if {$v == 2} continue; set v}": "a 1 c 3", "dict filter {a 1 b 2 c 3} script {k v} {if {$v == 2} break; set v}": "a 1", "dict filter a x y": "1 dict: a", "dict filter {} x y": "1 option: x", "dict filter {} key": "1 words: dict", "dict filter a key b c": "1 words: dict", "dict filter {} script x": "1 words: dict", "dict filter a script x y": "1 dict: a", "dict filter {a 1} script {k v} {set k}": "1 truth: a", "dict filter {} script k {}": "1 names: k", "dict filter a key *": "1 dict: a",
		"dict for {k v} {x 1 y 2} {append s $k$v}; set s": "x1y2", "dict for {k v} {x 1 y 2 z 3} {if {$k eq {y}} break; append s $k}; set s": "x", "dict for {k v} {x 1 y 2 z 3} {if {$k eq {y}} continue; append s $k}; set s": "xz", "dict for {k v} {x 1} {error no}": "1 no", "dict for k a {}": "1 names: k", "dict for \\{ a {}": "1 list: {", "dict for {k v} a {}": "1 dict: a", "dict for {k v} {a 1} {}": "", "dict for {a::k v} {a 1} {}": "1 namespace: ::a", "dict for {k v} {a 1} {}; steps": "19997", "dict for {k v} {a 1} {return x}": "2,0 x",
		"dict map {k v} {x 1 y 2} {expr {$v * 2}}": "x 2 y 4", "dict map {k v} {x 1 y 2 z 3} {if {$k eq {y}} continue; set v}": "x 1 z 3", "dict map {k v} {x 1 y 2 z 3} {if {$k eq {y}} break; set v}": "x 1", "dict map {k v} {x 1} {error no}": "1 no",
	})
}

// 24.1: what changes
func TestChanging(t *testing.T) {
	does(t, map[string]string{
		"dict set d a b 1; dict get $d a b": "1", "set d {a  1}; dict set d b 2; set d": "a 1 b 2", "dict set d a": "1 words: dict", "set d x; dict set d a 1": "1 dict: x", "set d {a x}; dict set d a b 1": "1 dict: x", "set d(1) x; dict set d a 1": "1 array: d", "dict set d::e a 1": "1 namespace: ::d", "dict set d a [string repeat x 65536]": "1 long", "dict set d(x) a 1; set d(x)": "a 1",
		"set d {a {b 1 c 2}}; dict unset d a b; set d": "a {c 2}", "dict unset d a": "1 variable: d", "set d {a 1}; dict unset d b": "a 1", "set d {a 1}; dict unset d b c": "1 key: b", "set d {a x}; dict unset d a b": "1 dict: x", "set d x; dict unset d a": "1 dict: x", "dict unset d": "1 words: dict",
		"dict append d k a b": "k ab", "set d {k x}; dict append d k a; dict append d k": "k xa", "set d x; dict append d k a": "1 dict: x", "dict lappend d k a {b c}": "k {a {b c}}", "set d {k \\{}; dict lappend d k a": "1 list: {", "set d {k \\{}; dict lappend d k": "k \\{", "dict lappend d k": "k {}", "dict incr d k": "k 1", "dict incr d k -5; dict incr d k": "k -4", "set d {k x}; dict incr d k y": "1 number: x", "dict incr d k y": "1 number: y", "set d(1) 1; dict incr d k": "1 array: d", "dict incr d k 1 2": "1 words: dict", "dict append d k [string repeat x 40000] [string repeat x 40000]": "1 long",
		"set d {a 1  b 2}; dict update d a x b y {set x 5; unset y}; set d": "a 5", "set d {a 1}; dict update d b y {set y 2}; set d": "a 1 b 2", "set d {a 1}; set y 7; dict update d b y {info exists y}": "0", "set d {a 1}; dict update d a x {set x 2; error no}": "1 no", "set d {a 1}; catch {dict update d a x {set x 2; error no}}; set d": "a 2", "dict update d a x {}": "1 variable: d", "set d x; dict update d a x {}": "1 dict: x", "set d {a 1}; dict update d a x {unset d}": "1 variable: d", "set d {a 1}; dict update d a x {set d q}": "1 dict: q", "set d {a 1}; dict update d a x {set d {z 3}}; set d": "z 3 a 1", "set d {a 1}; dict update d a x {unset d; break}": "3 ", "set d {a 1}; dict update d a x {unset x; set x(1) 1}": "1 array: x", "set d {a 1}; dict update d a x": "1 words: dict", "set d {a 1}; dict update d a x b y": "1 words: dict", "set d {a 1}; dict update d a n::x {}": "1 namespace: ::n", "set d {a 1}; dict update d a x {return 5}": "2,0 5",
		"set d {a 1}; catch {dict update d a x b y {set x [string repeat x 40000]; set y [string repeat y 40000]}} m; list $m $d": "long {a 1}",
		"set d {a 1 b 2}; dict with d {set a [expr {$a + $b}]}; set d":                                                            "a 3 b 2", "dict with d {}": "1 variable: d", "set d {a 1}; dict with d {unset a}; set d": "", "set d {a::b 1}; dict with d {}": "1 namespace: ::a",
	})
	x := New()
	x.Eval("set d {a 1}; dict update d a x {set x 2; while 1 {}}", 100)
	if s, _ := x.Get("d"); s != "a 1" {
		t.Error("nothing is written back behind a CStop")
	}
	if !slices.Equal(Commands(), []string{"dict"}) || len(New().Commands("*")) != 68 {
		t.Errorf("Commands = %q, %d", Commands(), len(New().Commands("*")))
	}
}
