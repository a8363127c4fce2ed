package strs

import (
	"fmt"
	"slices"
	"strings"
	"testing"

	"threadbare/api"
)

// does evaluates scripts, each in a new machine with and without faces, and compares what it tells: the code, if it is not 0, and the text.
func does(t *testing.T, cases map[string]string) {
	t.Helper()
	for script, want := range cases {
		for _, on := range []bool{true, false} {
			x := New()
			x.Faces(on)
			if got := told(x.Eval(script, 20000)); got != want {
				t.Errorf("%.90q: %.90q, not %.90q", script, got, want)
			}
		}
	}
}

func told(o api.Outcome) string {
	switch {
	case o.Code == api.COk:
		return o.Text
	case o.Code == api.CReturn:
		return fmt.Sprint(o.Code, ",", o.Then, " ", o.Text)
	}
	return fmt.Sprint(o.Code, " ", o.Text)
}

func rep(s string, n int) string { return strings.Repeat(s, n) }

// 22.1: string
func TestString(t *testing.T) {
	does(t, map[string]string{
		"string": "1 words: string", "string x": "1 option: x", "string length": "1 words: string", "string length abc": "3", "string reverse abc": "cba", "string tolower aB": "ab", "string toupper aB": "AB", "string totitle aB": "Ab", "string quote {a b}": "{a b}", "string cat": "", "string cat a {} b": "ab",
		"string index abc 1": "b", "string index abc end": "c", "string index abc 3": "", "string index abc -1": "", "string index abc x": "1 index: x", "string range abcd 1 end-1": "bc", "string range abcd x y": "1 index: x", "string range abcd 1 y": "1 index: y", "string replace abcd 1 2 x": "axd", "string replace abcd 1 2": "ad", "string replace abcd 3 1 x": "abcd", "string insert abc end x": "abcx", "string insert abc end-1 x": "abxc", "string insert abc -5 x": "xabc", "string insert abc 9 x": "abcx", "string insert abc q x": "1 index: q", "string insert " + rep("x", 40000) + " 0 " + rep("x", 40000): "1 long", "string replace " + rep("x", 40000) + " 0 0 " + rep("x", 40000): "1 long",
		"string first b abab 2": "3", "string first b abab": "1", "string first b abab end": "3", "string first b abab x": "1 index: x", "string last a abab": "2", "string last a abab 1": "0", "string count ab ababab": "3", "string repeat ab 3": "ababab", "string repeat ab -1": "", "string repeat ab x": "1 number: x", "string repeat ab " + rep("9", 30): "1 long", "string repeat {} " + rep("9", 30): "", "string repeat ab -" + rep("9", 30): "", "string trim { a }": "a", "string trim xxaxx x": "a", "string trimleft xax x": "ax", "string trimright xax x": "xa", "string trim xax {}": "xax",
		"string compare a b": "-1", "string compare -nocase A a": "0", "string compare -length 2 abc abd": "0", "string compare -length -1 abc abd": "-1", "string compare -length 0 a b": "0", "string equal -nocase -length 1 Ax ay": "1", "string equal a b": "0", "string equal -nocase a": "0", "string compare -x a b": "1 option: -x", "string compare a b c": "1 words: string", "string compare -length a b": "1 words: string", "string compare -length x a b": "1 number: x", "string compare a": "1 words: string", "string compare -length 3 a": "1 words: string",
		"string match a* abc": "1", "string match -nocase A* abc": "1", "string match A* abc": "0", "string match -x a b": "1 option: -x", "string map {a 1 b 2} aab": "112", "string map -nocase {A 1} aab": "11b", "string map a b": "1 pairs: a", "string map \\{ b": "1 list: {", "string map {a " + rep("x", 40000) + "} aa": "1 long",
		"string is digit 09": "1", "string is digit x": "0", "string is integer 0x1f": "1", "string is integer 1.0": "0", "string is boolean yes": "1", "string is boolean x": "0", "string is list \\{": "0", "string is list {a b}": "1", "string is dict a": "0", "string is dict {a b}": "1", "string is x a": "1 option: x", "string is list {" + rep("a ", 10001) + "}": "0", "string is integer " + rep("9", 601): "0",
	})
	for _, c := range []struct {
		a, b   string
		fold   bool
		length int
		want   int
	}{{"a", "B", false, -1, 1}, {"a", "B", true, -1, -1}, {"ab", "ac", false, 1, 0}, {"ab", "ac", false, 9, -1}, {"a", "b", true, 0, 0}} {
		if got := Compare(c.a, c.b, c.fold, c.length); got != c.want {
			t.Errorf("Compare(%q, %q) = %d", c.a, c.b, got)
		}
	}
	for _, c := range []struct {
		s, place, with, want string
		e                    api.Errno
	}{{"abc", "1", "x", "axbc", 0}, {"", "end", "x", "x", 0}, {"a", "q", "x", "", api.ErrSyntax}, {rep("x", 65536), "0", "x", "", api.ErrLimit}, {rep("x", 65536), "q", "x", "", api.ErrSyntax}} {
		if s, e := Insert(c.s, c.place, c.with); s != c.want || e != c.e {
			t.Errorf("Insert(%.9q, %s) = %q, %d", c.s, c.place, s, e)
		}
	}
}

// 22.1: the others
func TestOthers(t *testing.T) {
	does(t, map[string]string{
		"format %05d 42": "00042", "format %d": "1 format: %d", "format %d x": "1 format: %d", "format %c 300": "1 format: %c", "format %y 1": "1 format: %y", "format %d " + rep("9", 601): "1 long", "format %s%s " + rep("x", 40000) + " " + rep("x", 40000): "1 long", "format": "1 words: format",
		"scan {10 ff} {%d %x}": "10 255", "scan {10 ff} {%d %x} a b; list $a $b": "10 255", "scan {10 q} {%d %d} a b": "1", "set b 7; scan {10 q} {%d %d} a b; list $a $b": "10 7", "scan x %y": "1 format: %y", "scan x %y a b": "1 format: %y", "scan 1 %d a b": "1 words: scan", "scan {1 2} {%d %d} a": "1 words: scan", "scan " + rep("9", 601) + " %d": "1 long", "scan 1 %d a::b": "1 namespace: ::a", "scan 1": "1 words: scan", "scan x y a": "1 words: scan",
		"binary format {a2 c} ab 67": "abC", "binary format c x": "1 format: c", "binary format q": "1 format: q", "binary format a": "1 format: a", "binary format a*a* " + rep("x", 40000) + " " + rep("x", 40000): "1 long", "binary scan abC {a2 c}": "ab 67", "binary scan a q": "1 format: q", "binary encode hex ab": "6162", "binary decode hex 6162": "ab", "binary decode hex 6": "1 binary: 6", "binary encode base64 ab": "YWI=", "binary decode base64 YWI=": "ab", "binary encode percent {a b}": "a%20b", "binary decode percent a%20b": "a b", "binary decode percent %": "1 binary: %", "binary decode latin \\xe4": "ä", "binary encode latin ä": "\xe4", "binary encode latin ā": "1 binary: ā", "binary encode x a": "1 option: x", "binary": "1 words: binary", "binary x": "1 option: x", "binary scan a": "1 words: binary", "binary decode latin [string repeat \\xff 40000]": "1 long",
		"ascii aB": "97 66", "ascii {}": "", "char 97 0x42": "aB", "char": "", "char 256": "1 range: 256", "char -1": "1 range: -1", "char a": "1 number: a", "char 300 x": "1 range: 300", "points aä": "97 228", "points \\xff": "1 binary: \xff", "ofpoints 97 228": "aä", "ofpoints 97 x": "1 number: x", "ofpoints 97 55296": "1 binary: 97 55296", "ofpoints -1": "1 binary: -1", "crc 123456789": "3421780262", "sum {}": "14695981039346656037", "crc": "1 words: crc", "ofpoints " + rep("9", 30): "1 binary: " + rep("9", 30),
	})
	want := strings.Fields("ascii binary char crc format ofpoints points scan string sum")
	if !slices.Equal(Commands(), want) || len(New().Commands("*")) != 33+len(want) {
		t.Errorf("Commands = %q", Commands())
	}
}
