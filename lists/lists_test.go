package lists

import (
	"fmt"
	"slices"
	"strings"
	"testing"

	"threadbare/api"
)

// does evaluates scripts, each in a new machine with and without faces, and compares what it tells: the code, if it is not 0, and the text.
func does(t *testing.T, cases map[string]string) {
	t.Helper()
	for script, want := range cases {
		for _, on := range []bool{true, false} {
			x := New()
			x.Faces(on)
			if got := told(x.Eval(script, 20000)); got != want {
				t.Errorf("%.90q: %.90q, not %.90q", script, got, want)
			}
		}
	}
}

func told(o api.Outcome) string {
	switch {
	case o.Code == api.COk:
		return o.Text
	case o.Code == api.CReturn:
		return fmt.Sprint(o.Code, ",", o.Then, " ", o.Text)
	}
	return fmt.Sprint(o.Code, " ", o.Text)
}

func rep(s string, n int) string { return strings.Repeat(s, n) }

// 23.1: the commands
func TestLists(t *testing.T) {
	many := "{" + rep("a ", 10001) + "}"
	does(t, map[string]string{
		"llength {a {b c}}": "2", "llength \\{": "1 list: {", "llength " + many: "1 long", "llength": "1 words: llength",
		"lindex {a {b c}} 1 0": "b", "lindex {a {b c}} {1 0}": "b", "lindex {a b}": "a b", "lindex {a b} {}": "a b", "lindex {a b} end": "b", "lindex {a b} 5": "", "lindex {a b} 5 3 1": "", "lindex {a b} x": "1 index: x", "lindex {a b} \\{": "1 index: {", "lindex {a b} {0 x}": "1 index: x", "lindex {a \\{} 1 0": "1 list: {", "lindex \\{ x": "1 list: {",
		"lrange {a b c} 1 end": "b c", "lrange \\{ x y": "1 list: {", "lrange {a b} x y": "1 index: x", "lrange {a b} 0 y": "1 index: y", "lreplace {a b c} 1 1 x y": "a x y c", "lreplace {a b c} 1 1": "a c", "lreplace {a b} x 1": "1 index: x", "linsert {a b} end x": "a b x", "linsert {a b} 0 x {y z}": "x {y z} a b", "linsert {a b} 0": "a b", "linsert a q": "1 index: q", "lreverse {a b {c d}}": "{c d} b a", "lrepeat 2 a {b c}": "a {b c} a {b c}", "lrepeat -1 a": "", "lrepeat 9999999999999": "", "lrepeat 9999999999999 a": "1 long", "lrepeat x": "1 number: x", "lrepeat 10001 a": "1 long",
		"lappend a b {c d}; set a": "b {c d}", "set a {x  y}; lappend a": "x  y", "lappend a; set a": "", "set a {x  y}; lappend a z": "x y z", "set a \\{; lappend a x": "1 list: {", "set a \\{; lappend a": "{", "set a(1) 1; lappend a x": "1 array: a", "lappend a [string repeat x 40000]; lappend a [string repeat x 40000]": "1 long", "set a 5; catch {lappend a [string repeat x 40000] [string repeat x 40000]}; set a": "5",
		"set a {x {y z}}; lset a 1 0 q; set a": "x {q z}", "set a x; lset a 5": "5", "set a x; lset a 1 y": "x y", "set a x; lset a 2 y": "1 index: 2", "set a x; lset a -1 y": "1 index: -1", "set a x; lset a q y": "1 index: q", "set a \\{; lset a q y": "1 list: {", "lset a 0 x": "1 variable: a", "set a(1) 1; lset a 0 x": "1 array: a", "set a {x \\{}; lset a 1 0 y": "1 list: {", "lset a": "1 words: lset",
		"lassign {1 2 3} a b; list $a $b": "1 2", "lassign {1 2 3} a b": "3", "lassign 1 a b; list $a $b": "1 {}", "lassign \\{ a": "1 list: {", "lassign {1 2} a::b": "1 namespace: ::a", "lassign {1 2}": "1 2",
		"join {a {b c}} ,": "a,b c", "join {a b}": "a b", "join {}": "", "join \\{": "1 list: {", "join {a b} [string repeat x 65536]": "1 long", "split a,b, ,": "a b {}", "split {}": "", "split {a b}": "a b", "split abc {}": "a b c", "split a,b;c {,;}": "1 command: c", "split {a,b;c} {,;}": "a b c", "split [string repeat , 10000] ,": "1 long",
		"lflat {a {b {c d}}}": "a b {c d}", "lflat {a \\{}": "1 list: {", "ldiff {a b a c} {b}": "a c", "lcommon {a b a c} {c a}": "a c", "lunion {a b a} {c b}": "a b c", "ldiff a \\{": "1 list: {", "ldiff \\{ \\}\\{": "1 list: {", "lcount {a b a} a": "2", "lcount \\{ a": "1 list: {",
		"lsum {1 0x2 -5}": "-2", "lsum {}": "0", "lsum {1 x}": "1 number: x", "lsum {" + rep("9", 601) + " x}": "1 long", "lsum {" + rep("9", 600) + " 1}": "1 long", "lmin {3 0x2 2}": "0x2", "lmax {3 0x3 2}": "3", "lmin {}": "1 range: ", "lmax x": "1 number: x", "lmin \\{": "1 list: {", "lzip {a b} {c}": "{a c} {b {}}", "lzip": "", "lzip {} {}": "", "lzip a \\{": "1 list: {",
		"lfold s x 0 {1 2 3} {expr {$s + $x}}": "6", "lfold s x 7 {} {error no}": "7", "lfold s x 0 {1 2 3} {if {$x == 2} break; set x}": "1", "lfold s x 0 {1 2 3} {if {$x == 2} continue; expr {$s + $x}}": "4", "lfold s x 0 {1 2} {error no}": "1 no", "lfold s x 0 \\{ {}": "1 list: {", "catch {lfold s x 0 \\{ {}}; info exists s": "0", "lfold a::s x 0 {} {}": "1 namespace: ::a", "lfold s a::x 0 {1} {}": "1 namespace: ::a", "lfold s x 0 1 {}; steps": "19997", "lfold a b c d": "1 words: lfold",
	})
}

// 23.1: lsort and lsearch
func TestOrder(t *testing.T) {
	does(t, map[string]string{
		"lsort -integer -decreasing {3 10 2}": "10 3 2", "lsort {b a C}": "C a b", "lsort -nocase {b a C}": "a b C", "lsort -integer -ascii {3 10 2}": "10 2 3", "lsort -decreasing -increasing {b a}": "a b", "lsort -unique {b a b}": "a b", "lsort -integer {1 x y}": "1 number: x", "lsort -integer {1 1234567890123456789 x}": "1 number: 1234567890123456789", "lsort \\{": "1 list: {", "lsort -x \\{": "1 option: -x", "lsort -x a b": "1 option: -x", "lsort a b": "1 words: lsort", "lsort -integer": "-integer", "lsort": "1 words: lsort", "lsort -command {}": "1 words: lsort", "lsort -nocase -unique {a A b}": "A b",
		"proc c {a b} {string compare $a $b}; lsort -command c {b c a b}": "a b b c", "proc c {a b} {string compare $a $b}; lsort -command c -decreasing {b c a b}": "c b b a", "proc c {x a b} {append ::log $a$b$x; string compare $a $b}; lsort -command {c -} {c b a}; set log": "ba-ca-cb-", "proc c {a b} {return 0}; lsort -command c -unique {a b c}": "c", "proc c {a b} {expr {[string index $a 0] eq [string index $b 0] ? 0 : [string compare $a $b]}}; lsort -unique -command c {b1 a1 b2 a2}": "a2 b2", "lsort -command list {a b}": "1 number: a b", "lsort -command no {a b}": "1 command: no", "lsort -command no {a}": "a", "lsort -command \\{ {a}": "1 list: {", "lsort -command \\{ \\}\\{": "1 list: {", "lsort -command \\{ -ascii {b a}": "a b", "lsort -command break {b a}": "1 words: break", "lsort -command {return 1 2} {b a}": "1 words: return", "lsort -command {error} {b a}": "1 words: error",
		"lsearch {a b c} b": "1", "lsearch {a bc b} b*": "1", "lsearch -exact {a b* b} b*": "1", "lsearch -nocase {a B} b": "1", "lsearch {a b} x": "-1", "lsearch -all {a b a} a": "0 2", "lsearch -inline {a bc} b*": "bc", "lsearch -inline a b": "", "lsearch -all -inline {ab c aa} a*": "ab aa", "lsearch -all -inline {a {b c}} b*": "{b c}", "lsearch -inline {a {b c}} b*": "b c", "lsearch -not {a b} a": "1", "lsearch -all -not -exact {a b c} b": "0 2", "lsearch -start 1 {a b a} a": "2", "lsearch -start end {a b a} a": "2", "lsearch -start 9 {a b a} a": "-1", "lsearch -start -5 {a b a} a": "0", "lsearch -start x \\{ a": "1 index: x", "lsearch -x \\{ a": "1 option: -x", "lsearch -start a b": "1 words: lsearch", "lsearch \\{ a": "1 list: {", "lsearch a": "1 words: lsearch", "lsearch a b c": "1 words: lsearch", "lsearch -exact -glob {ab} a*": "0", "lsearch -all {} x": "", "lsearch -all -x a b c d": "1 option: -x",
	})
}

// 23.1
func TestFunctions(t *testing.T) {
	for _, c := range []struct{ s, bytes, want string }{{"a,b", ",", "[a b]"}, {"", ",", "[]"}, {"", "", "[]"}, {",", ",", "[ ]"}, {"ab", "", "[a b]"}, {"ab", "x", "[ab]"}, {"\xff,", "\xff", "[ ,]"}} {
		if got := fmt.Sprint(Split(c.s, c.bytes)); got != c.want {
			t.Errorf("Split(%q, %q) = %s", c.s, c.bytes, got)
		}
	}
	a, b := []string{"a", "b", "a"}, []string{"c", "b", "c"}
	for kind, want := range map[int]string{0: "[a] 0", 1: "[b] 0", 2: "[a b c] 0", 3: "[] 7", -1: "[] 7"} {
		l, e := Common(a, b, kind)
		if got := fmt.Sprint(l, e); got != want {
			t.Errorf("Common %d = %s", kind, got)
		}
	}
	if got := fmt.Sprintf("%q", Zip([][]string{{"a", "b"}, {"c"}, nil})); got != `[["a" "c" ""] ["b" "" ""]]` {
		t.Errorf("Zip = %s", got)
	}
	if Zip(nil) != nil {
		t.Error("Zip of nothing")
	}
	want := strings.Fields("join lappend lassign lcommon lcount ldiff lflat lfold lindex linsert llength lmax lmin lrange lrepeat lreplace lreverse lsearch lset lsort lsum lunion lzip split")
	if !slices.Equal(Commands(), want) || len(New().Commands("*")) != 43+len(want) {
		t.Errorf("Commands = %q", Commands())
	}
	if api.OK != 0 {
		t.Error("OK")
	}
}
