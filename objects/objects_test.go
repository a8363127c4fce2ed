package objects

import (
	"fmt"
	"slices"
	"strings"
	"testing"

	"threadbare/api"
)

// does evaluates scripts, each in a new machine with and without faces, and compares what it tells: the code, if it is not 0, and the text.
func does(t *testing.T, cases map[string]string) {
	t.Helper()
	for script, want := range cases {
		for _, on := range []bool{true, false} {
			x := New()
			x.Faces(on)
			if got := told(x.Eval(script, 20000)); got != want {
				t.Errorf("%.90q: %.90q, not %.90q", script, got, want)
			}
		}
	}
}

func told(o api.Outcome) string {
	switch {
	case o.Code == api.COk:
		return o.Text
	case o.Code == api.CReturn:
		return fmt.Sprint(o.Code, ",", o.Then, " ", o.Text)
	}
	return fmt.Sprint(o.Code, " ", o.Text)
}

func rep(s string, n int) string { return strings.Repeat(s, n) }

// 29.1: classes and objects
func TestObjects(t *testing.T) {
	does(t, map[string]string{
		"class create a {{method f {} {return 1}}}; class create b {{superclass a} {method f {} {expr {[next] + 1}}}}; [b new] f": "2", "class create a {}": "::a", "class create a {}; a new": "::oo::1", "class create a {}; a new; a create x": "::x", "class create a {}; a create x; a new": "::oo::2", "class": "1 words: class", "class x": "1 option: x", "object": "1 words: object", "object x": "1 option: x", "class create a": "1 words: class", "class create a \\{": "1 list: {", "class create a {\\{}": "1 list: {", "class create n::a {}": "1 namespace: ::n", "class create n::a \\{": "1 list: {", "proc a {} {}; class create a {}; a new": "::oo::1",
		"class create a {}; a x": "1 method: x", "class create a {}; a": "1 words: a", "class create a {}; a create": "1 words: a", "class create a {}; a create n::x": "1 namespace: ::n", "class create a {}; a new 1": "1 words: a", "class create a {}; a create n::x 1": "1 namespace: ::n", "class create a {{constructor {x} {set ::got $x}}}; a new 5; set got": "5", "class create a {{constructor {x} {}}}; a new": "1 words: a", "class create a {{constructor {} {error no}}}; catch {a create o} m; list $m [info commands o] [class instances a]": "no {} {}", "class create a {{constructor {} {break}}}; a new": "1 code: break", "class create a {{constructor {} {return 5}}}; a new": "::oo::1", "class create a {{constructor {} {append ::s a}}}; class create b {{superclass a} {constructor {} {append ::s b; next}}}; b new; set s": "ba", "class create a {{constructor {} {object delete [self]}}}; a create o": "", "proc f {} {}; class create a {}; a create f; object class f": "::a",
		"class create a {{method f {x} {list [self] [self class] [self method] $x [info level 1] [info level] [namespace current]}}}; a create o; o f 1": "::o ::a f 1 {o f 1} 1 ::oo::1", "class create a {}; a create o; object define o method f {} {list [self class] [my g]}; object define o method g {} {info level 0}; o f": "{} {my g}", "class create a {}; a create o; o x": "1 method: x", "class create a {}; a create o; o": "1 words: o", "class create a {{method f x {}}}; a create o; o f": "1 words: o", "class create a {{method f x {}} {method g {} {my f}}}; a create o; o g": "1 words: my", "self": "1 method: self", "next": "1 method: next", "my f": "1 method: my", "class create a {{method f {} {self x}}}; [a new] f": "1 option: x", "class create a {{method f {} {my x}}}; [a new] f": "1 method: x", "class create a {{method f {} {list [next] x}}}; [a new] f": "{} x",
		"class create a {{field n m} {constructor {} {set n 1} } {method up {} {incr n} } {method all {} {list $n [info exists m]}}}; a create o; a create p; o up; list [o all] [p all] [set ::oo::1::n] [object vars o]": "{2 0} {1 0} 2 n", "class create a {{field n} {method f n {set n 5} } {method g {} {info exists n}}}; a create o; o f 1; o g": "0", "class create a {{field n} {constructor {} {set n a}}}; class create b {{superclass a} {method f {} {info exists n}}}; [b new] f": "0", "class create a {{field n} {constructor {} {set n a}}}; a create o; object define o method f {} {set n}; o f": "a", "class create a {{field n(1)}}": "1 name: n(1)", "class create a {{field a::b}}": "1 name: a::b", "class create a {{field x x y}}; class fields a": "x y",
		"class create a {{method f {} {error no}} {method g {} {break}} {method h {} {tailcall list t}}}; a create o; list [catch {o f} m] $m [catch {o g} m] $m [o h]": "1 no 1 {code: break} t", "class create a {{forward f list x} {forward g}}; a create o; list [o f 1 2] [o g list q]": "{x 1 2} q", "class create a {{forward f h} {forward lv info level}}; proc h args {list g $args}; a create o; namespace eval ::oo::1 {proc h args {list own $args}}; list [o f 1] [o lv]": "{own 1} 0", "class create a {{forward f steps}}; a create o; o f": "19996", "class create a {{method f {} {steps}}}; a create o; o f": "19996", "class create a {{method f {} {rename [self] {}; self}}}; a create o; o f": "", "class create a {{method f {} {}}}; a create o; rename o q; q f; list [class instances a] [object class q]": "::q ::a", "class create a {}; a create o; rename a b; list [object class o] [class order b]": "::b ::b",
	})
}

const diamond = "class create t {{method f {} {list t}}}; class create l {{superclass t} {method f {} {concat l [next]}}}; class create r {{superclass t} {method f {} {concat r [next]}}}; class create b {{superclass l r} {method f {} {concat b [next]}}}; "

// 29.1: orders, chains, filters, definitions, deletion
func TestClasses(t *testing.T) {
	does(t, map[string]string{
		diamond + "list [class order b] [[b new] f]": "{::b ::l ::r ::t} {b l r t}", diamond + "class create m {{method f {} {concat m [next]}}}; class define l mixin m; [b new] f": "b m l r t", diamond + "class create m {{method f {} {concat m [next]}}}; b create o; object define o mixin m; object define o method f {} {concat own [next]}; list [o f] [object chain o f] [object mixins o]": "{m own b l r t} {::m {} ::b ::l ::r ::t} ::m", diamond + "b create o; list [object isa o t] [object isa o b] [object methods o] [class superclasses b]": "1 1 f {::l ::r}", diamond + "class create q {}; b create o; list [object isa o q] [catch {object isa o no} m] $m": "0 1 {class: no}",
		"class create a {{method f {} {list f}} {method g {} {concat g [next]}} {filter g}}; a create o; list [o f] [object chain o f] [o g]": "{g f} {::a ::a} g", "class create a {{method f args {list f $args}} {method log args {lappend ::s [self method]; next {*}$args}} {filter log}}; a create o; o f 1 2; o f; set s": "log log", "class create a {{method f {} {list f}} {filter nothing}}; [a new] f": "f", "class create a {{filter g} {method g {} {list x}}}; a create o; o h": "1 method: h", "class create a {{filter g} {method g {} {list x}}}; a create o; object chain o h": "", "class create a {{method f {} {list f}} {method h {} {list h}} {method g {} {concat g [my h] [next]}} {filter g}}; a create o; o f": "1 deep", "class create a {{method f {} {list f}} {method g {} {concat g [next]}} {method k {} {concat k [next]}} {filter g}}; a create o; object define o filter k g; list [o f] [class filters a]": "{k g f} g", "class create a {{filter x x y}}; class filters a": "x y",
		"class create a {}; class define a method f {} {list f}; a create o; class define a deletemethod f; o f": "1 method: f", "class create a {}; class define a deletemethod f": "1 method: f", "class create a {}; class define a x": "1 option: x", "class create a {}; class define a method f": "1 words: method", "class create a {}; class define a class a": "1 option: class", "class create a {}; a create o; object define o field x": "1 option: field", "class create a {}; class define a superclass no": "1 class: no", "class create a {}; class define a superclass a": "1 circle: ::a", "class create a {}; class create b {{superclass a}}; class define a mixin b": "1 circle: ::a", "class create a {}; class create b {{superclass a}}; class define a superclass b no": "1 class: no", "class create a {}; class create b {{superclass a a}}; class superclasses b": "::a", "class create a {{method f \\{ {}}}": "1 list: {", "class create a {}; class define a method f \\{ {}": "1 list: {", "class create a {}; class define a constructor {x x} {}": "1 param: x", "class create a {{method f {} {list f}} {no}}": "1 option: no", "catch {class create a {{method f {} {list f}} {no}}}; [a new] f": "f", "class create a {{}}": "1 option: ", "class define no x": "1 class: no", "object define no x": "1 object: no", "class create a {}; a create o; class order o": "1 class: o", "class create a {}; object class a": "1 object: a", "class create a {{method f {} {list a}}}; class create b {{method f {} {list b}}}; a create o; object define o class b; list [o f] [class instances a] [class instances b]": "b {} ::o", "class create a {{method z {} {}} {method b {} {}}}; class methods a": "b z", "class create a {{method f {} {class define a method f {} {list new}; list [my f] old}}}; [a new] f": "new old",
		"class create a {{destructor {append ::s d}}}; class create b {{superclass a} {destructor {append ::s b; next}}}; b create o; object delete o; list $s [info commands o] [namespace exists ::oo::1] [class instances b]": "bd {} 0 {}", "object delete no": "1 object: no", "class create a {{destructor {error no}}}; a create o; object delete o": "", "class create a {{destructor {object delete [self]; append ::s x}}}; a create o; object delete o; set s": "x", "class create a {{method f {} {object delete [self]; list [self] [namespace exists ::oo::1]}}}; a create o; o f": "{} 0", "class create a {{destructor {append ::s [self]}}}; class create c {{superclass a}}; class create b {{superclass a}}; b create x; c create y; a create z; class delete a; list $s [info commands ?] [catch {class order b}]": "::x::y::z {} 1", "class create m {}; class create a {{mixin m}}; a create o; object define o mixin m; class delete m; list [class mixins a] [object mixins o] [object class o]": "{} {} ::a", "class delete no": "1 class: no", "class create a {}; a create o; rename a {}; object class o": "", "class create a {}; a create o; rename o {}; class instances a": "{}", "proc d args {lappend ::s $args}; class create a {}; a create o; trace add command o delete d; object delete o; set s": "{::o {} delete}", "class create a {{destructor {list [info level 0]; set ::s [info level 0]}}}; a create o; object delete o; set s": "object delete o", "class create a {{destructor {a create p}}}; a create o; class delete a": "5 steps",
		"class create a {{field v} {constructor {} {set v 1}} {method f {} {incr v}}}; a create o; proc g {} {o f; o f}; g": "3", "class create a {{method f {} {proc helper {} {list h}; helper}}}; a create o; list [o f] [::oo::1::helper]": "h h", "class create a {{method f {} {upvar 1 x y; set y 5}}}; a create o; o f; set x": "5",
	})
	for _, c := range []struct {
		supers, mixins [][]int
		class          int
		order, mixed   string
	}{
		{[][]int{{1, 2}, {3}, {3}, {}}, [][]int{{}, {}, {}, {}}, 0, "[0 1 2 3] 0", "[0 1 2 3] 0"}, {[][]int{{}, {}}, [][]int{{1}, {}}, 0, "[0] 0", "[1 0] 0"}, {[][]int{{}, {}}, [][]int{{1}, {0}}, 0, "[0] 0", "[1 0] 0"}, {[][]int{{1}, {}, {1}}, [][]int{{2}, {}, {}}, 0, "[0 1] 0", "[2 1 0] 0"}, {[][]int{{1}, {0}}, [][]int{{}, {}}, 0, "[] 9", "[] 9"}, {[][]int{{0}}, [][]int{{}}, 0, "[] 9", "[] 9"}, {[][]int{{}}, [][]int{{}}, 1, "[] 7", "[] 7"}, {[][]int{{5}}, [][]int{{}}, 0, "[] 7", "[] 7"}, {[][]int{{}}, nil, 0, "[0] 0", "[] 1"}, {make([][]int, 101), make([][]int, 101), 0, "[] 7", "[] 7"}, {make([][]int, 1), [][]int{{7}}, 0, "[0] 0", "[] 7"}, {nil, nil, 0, "[] 7", "[] 7"}, {[][]int{{}, {2}, {1}}, [][]int{{}, {}, {}}, 0, "[0] 0", "[0] 0"}, {[][]int{{}, {2}, {1}}, [][]int{{1}, {}, {}}, 0, "[0] 0", "[] 9"},
	} {
		l, e := Order(c.supers, c.class)
		if got := fmt.Sprint(l, e); got != c.order {
			t.Errorf("Order(%v, %d) = %s", c.supers, c.class, got)
		}
		l, e = Mixed(c.supers, c.mixins, c.class)
		if got := fmt.Sprint(l, e); got != c.mixed {
			t.Errorf("Mixed(%v, %v, %d) = %s", c.supers, c.mixins, c.class, got)
		}
	}
	var deep [][]int
	for i := range 99 {
		deep = append(deep, []int{i + 1, i + 1})
	}
	if l, e := Order(append(deep, nil), 0); len(l) != 100 || e != 0 {
		t.Error("Order of many")
	}
	if l, e := Mixed(make([][]int, 100), append(deep, nil), 0); len(l) != 100 || l[0] != 99 || e != 0 {
		t.Error("Mixed of many")
	}
	x := New()
	x.Eval("class create a {{destructor {while 1 {}}}}; a create o", 100)
	if o := x.Eval("object delete o", 100); o.Code != api.CStop {
		t.Error("a destructor that ends by CStop")
	}
	if got := told(x.Eval("class define a destructor {}; object delete o; class instances a", 100)); got != "" {
		t.Errorf("deleted again: %q", got)
	}
	want := strings.Fields("class my next object self")
	if !slices.Equal(Commands(), want) || len(New().Commands("*")) != 79+len(want) {
		t.Errorf("Commands = %q", Commands())
	}
}

// 29.1: a class and an object in the place of a command are there while its delete traces are done
func TestMadeInAPlace(t *testing.T) {
	does(t, map[string]string{
		"proc o {} {}; proc d args {lappend ::log [o m]}; trace add command o delete d; class create A {{method m {} {self}}}; A create o; set log":            "::o",
		"proc A {} {}; proc d args {lappend ::log [object class [A new]] [class instances A]}; trace add command A delete d; class create A {}; list $log [A]": "1 words: A",
		"proc A {} {}; proc d args {lappend ::log [object class [A new]]}; trace add command A delete d; class create A {}; list $log [class instances A]":     "::A ::oo::1",
	})
}
