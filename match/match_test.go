package match

import (
	"fmt"
	"slices"
	"strings"
	"testing"

	"threadbare/api"
)

// does evaluates scripts, each in a new machine with and without faces, and compares what it tells: the code, if it is not 0, and the text.
func does(t *testing.T, cases map[string]string) {
	t.Helper()
	for script, want := range cases {
		for _, on := range []bool{true, false} {
			x := New()
			x.Faces(on)
			if got := told(x.Eval(script, 20000)); got != want {
				t.Errorf("%.90q: %.90q, not %.90q", script, got, want)
			}
		}
	}
}

func told(o api.Outcome) string {
	switch {
	case o.Code == api.COk:
		return o.Text
	case o.Code == api.CReturn:
		return fmt.Sprint(o.Code, ",", o.Then, " ", o.Text)
	}
	return fmt.Sprint(o.Code, " ", o.Text)
}

func rep(s string, n int) string { return strings.Repeat(s, n) }

// 25.1
func TestCommands(t *testing.T) {
	does(t, map[string]string{
		"regexp {(a+)(b)?} xaab m a b": "1", "regexp {(a+)(b)?} xaab m a b; list $m $a $b": "aab aa b", "regexp {(a+)(b)?} xaac m a b c; list $m $a $b $c": "aa aa {} {}", "regexp a b m": "0", "regexp a b m; info exists m": "0", "regexp -indices {(a+)(b)?} xaac m a b c; list $m $a $b $c": "{1 2} {1 2} {-1 -1} {-1 -1}", "regexp -indices {} ab m; set m": "0 -1", "regexp -nocase A a": "1", "regexp -line {^b$} a\\nb": "1", "regexp {^b$} a\\nb": "0", "regexp -start 1 a aba m": "1", "regexp -start 1 -indices a aba m; set m": "2 2", "regexp -start end-1 -indices a aba m; set m": "2 2", "regexp -start 99 {} ab": "1", "regexp -start -9 a ab": "1", "regexp -start x ( a": "1 index: x",
		"regexp -inline {(a)(b)?} xa": "a a {}", "regexp -inline x a": "", "regexp -inline a b c": "1 words: regexp", "regexp -all a aba": "2", "regexp -all a aba m; set m": "a", "regexp -all {.} abc m; set m": "c", "regexp -all -inline {(.)b} abcb": "ab a cb c", "regexp -all -inline -indices a aba": "{0 0} {2 2}", "regexp -all -start 1 {^a|b|} ab": "2", "regexp -all {} ab": "3", "regexp -all -start 1 {} ab": "2", "regexp -- -a x-a": "1", "regexp -x ( a": "1 option: -x", "regexp -x": "1 option: -x", "regexp -x y": "1 option: -x", "regexp -nocase a": "1 words: regexp", "regexp -nocase -start": "1 words: regexp", "regexp ( a": "1 pattern: (", "regexp -all -inline ( a": "1 pattern: (", "regexp -all -start 1 ( abc": "1 pattern: (", "regexp {(a)\\1} [string repeat a 201]": "1 long", "regexp a a m::b": "1 namespace: ::m", "regexp -inline -all . [string repeat a 10001]": "1 long", "regexp [string repeat ( 101][string repeat ) 101] a": "1 pattern: " + rep("(", 40), "regexp a": "1 words: regexp",
		"regsub -all {\\d} a1b2 {<\\0>}": "a<1>b<2>", "regsub {\\d} a1b2 x": "axb2", "regsub a b c": "b", "regsub -all a aba x m; set m": "xbx", "regsub -all a aba x m": "2", "regsub a b c m; set m": "b", "regsub -command {(.)b} xabab {list q}": "xq ab aab", "regsub -command {(a)(x)?} a list": "a a {}", "regsub -all -command {.} abc {string toupper}": "ABC", "regsub -all -command a aa error": "1 a", "regsub -command a a \\{": "1 list: {", "regsub ( a b": "1 pattern: (", "regsub -command ( a \\{": "1 pattern: (", "regsub -x a b c": "1 option: -x", "regsub a b": "1 words: regsub", "regsub a b c d e": "1 words: regsub", "regsub -all a b": "1 words: regsub", "regsub a a [string repeat x 65536]": rep("x", 65536), "regsub a ab [string repeat x 65536]": "1 long", "regsub -command a ab {string repeat x 65536 ;#}": "1 words: string", "regsub -nocase A a x": "x", "regsub -line -all {^} a\\nb x": "xa\nxb", "regsub a a b m::c": "1 namespace: ::m", "regsub -command a a break": "1 words: break", "regsub -all -command b abc {apply {x {return -code break}}}": "3 ", "proc f x {incr ::n; string repeat x 40000}; catch {regsub -all -command a aaa f} m; list $m $n": "long 3", "proc f x {if {[incr ::n] == 3} {error no}; string repeat x 40000}; regsub -all -command a aaa f": "1 no",
		"glob a* {ab b aa}": "ab aa", "glob -not a* {ab b aa}": "b", "glob -nocase A* {ab b}": "ab", "glob a \\{": "1 list: {", "glob -x a b": "1 option: -x", "glob a": "1 words: glob", "glob a b c": "1 words: glob", "rsplit {,+} a,,b": "a b", "rsplit -nocase X axb": "a b", "rsplit ( a": "1 pattern: (", "rsplit -x a b": "1 option: -x", "rsplit a": "1 words: rsplit", "rquote a.b": "a\\.b", "rcheck a": "", "rcheck (a": "2", "rcheck [string repeat ( 101][string repeat ) 101]": "0", "rquote": "1 words: rquote",
		"choose abc {x {list 1} (b)(c) {set match} . {list 3}}": "bc b c", "choose abc {x {list 1}}": "", "choose a {}": "", "choose a {b}": "1 words: choose", "choose a \\{": "1 list: {", "choose a {a {list 1} ( {list 2}}": "1", "choose a {( {list 1} a {list 2}}": "1 pattern: (", "choose a {a break}": "3 ", "set match(1) 1; choose a {a {list 1}}": "1 array: match", "proc f {} {choose a {a {info locals}}}; f": "match", "choose a": "1 words: choose",
	})
	if got := fmt.Sprintf("%q", Pieces("abc", []api.Span{{From: 0, To: 2}, {From: -1, To: -1}, {From: 2, To: 1}, {From: 0, To: 9}, {From: 3, To: 3}, {From: -2, To: 1}})); got != `["ab" "" "" "" "" ""]` {
		t.Errorf("Pieces = %s", got)
	}
	if Pieces("a", nil) != nil {
		t.Error("Pieces of nothing")
	}
	want := strings.Fields("choose glob rcheck regexp regsub rquote rsplit")
	if !slices.Equal(Commands(), want) || len(New().Commands("*")) != 68+len(want) {
		t.Errorf("Commands = %q", Commands())
	}
}
