package host

import (
	"strings"
	"testing"

	"threadbare/api"
	"threadbare/core"
	"threadbare/expr"
	"threadbare/parse"
	"threadbare/shelf"
)

// road reads scripts as texts, command by command, where the machine runs instructions.
type road struct{ *core.Machine }

func (x road) token(t api.Token) core.Result {
	switch {
	case t.Kind == api.TScript:
		l, _, _ := parse.Script(t.Text)
		return x.commands(l)
	case t.Kind == api.TVar && t.HasIndex:
		index := x.tokens(t.Index)
		if !index.Good() {
			return index
		}
		return x.Read(t.Text + "(" + index.Text + ")")
	case t.Kind == api.TVar:
		return x.Read(t.Text)
	}
	return core.OK(t.Text)
}

func (x road) tokens(l []api.Token) core.Result {
	var b strings.Builder
	for _, t := range l {
		r := x.token(t)
		if !r.Good() {
			return r
		}
		b.WriteString(r.Text)
	}
	if b.Len() > api.MaxText {
		return core.Error("long")
	}
	return core.OK(b.String())
}

func (x road) words(l []api.Word) ([]string, core.Result) {
	var words []string
	for _, w := range l {
		r := x.tokens(w.Tokens)
		all := []string{r.Text}
		if r.Good() && w.Spread {
			all, r = x.List(r.Text)
		}
		if !r.Good() {
			return nil, r
		}
		words = append(words, all...)
	}
	return words, core.OK("")
}

func (x road) commands(l []api.Command) core.Result {
	out := core.OK("")
	for _, c := range l {
		words, r := x.words(c.Words)
		if !r.Good() {
			return r
		}
		if out = x.Invoke(words); !out.Good() {
			return out
		}
	}
	return out
}

func (x road) truth(n api.Node) (bool, core.Result) {
	r := x.node(n)
	if !r.Good() {
		return false, r
	}
	return core.TruthOf(r.Text)
}

// choice does what evaluates only what it needs.
func (x road) choice(n api.Node) core.Result {
	yes, r := x.truth(n.Args[0])
	switch {
	case !r.Good():
		return r
	case n.Text == "?" && yes:
		return x.node(n.Args[1])
	case n.Text == "?":
		return x.node(n.Args[2])
	case yes == (n.Text == "||"):
		return core.Truth(yes)
	}
	yes, r = x.truth(n.Args[1])
	if !r.Good() {
		return r
	}
	return core.Truth(yes)
}

func (x road) node(n api.Node) core.Result {
	if n.Kind == api.NWord {
		return x.tokens(n.Word.Tokens)
	}
	if n.Kind == api.NOp && (n.Text == "?" || n.Text == "&&" || n.Text == "||") {
		return x.choice(n)
	}
	var args []string
	for _, a := range n.Args {
		r := x.node(a)
		if !r.Good() {
			return r
		}
		args = append(args, r.Text)
	}
	do := expr.Apply
	if n.Kind == api.NCall {
		do = expr.Call
	}
	s, problem := do(n.Text, args)
	if problem != "" {
		return core.Error(problem)
	}
	return core.OK(s)
}

func (x road) script(s string) core.Result {
	return x.Deeper(func() core.Result {
		l, _, e := parse.Script(s)
		if e != api.OK {
			return core.Fail("script", s)
		}
		return x.commands(l)
	})
}

func (x road) expression(s string) core.Result {
	n, _, e := expr.Parse(s)
	if e != api.OK {
		return core.Fail("expr", s)
	}
	return x.node(n)
}

// held does something with the machine's road and with the other one, with each number of steps, and compares what is told.
func held(t *testing.T, s string, run func(x *core.Machine) core.Result, read func(x road) core.Result) {
	t.Helper()
	for steps := range 40 {
		x, y := shelf.New(), shelf.New()
		for _, m := range []*core.Machine{x, y} {
			m.Eval("set a 1; set l {x {y z}}; set b(k) 5; set b() 6; proc f args {list f {*}$args}; proc add {x y} {expr {$x + $y}}", 100)
		}
		one := x.Start(steps, func() core.Result { return run(x) })
		two := y.Start(steps, func() core.Result { return read(road{y}) })
		if one.Outcome != two.Outcome || x.Left() != y.Left() || x.Dump() != y.Dump() {
			t.Errorf("%q with %d steps: %v, %v", s, steps, one.Outcome, two.Outcome)
		}
	}
}

// P5, P33.5
func TestTwoRoads(t *testing.T) {
	long := strings.Repeat("x", 40000)
	for _, s := range []string{
		"", "# nothing", "set x $a", "set x $a$b(k)[f $a [f]]; list $x", "f {*}$l {*}[f 1] $b([f k])", "f $b([set i k]) $b() $b($a)", "{*}{}", "{*}{set q} 5; set q", "set x [set y [set z [add 1 2]]]; add $x $y", "f [f;f 1\nf 2] []", "f [set x 5; error $x] $no", "f $no [set x 5]", "set x $a; unset a; set a", "f [break] x", "f [continue]", "catch {f [break]} m; list $m [catch {return -code 3 x}]", "proc g {} {tailcall f 1; error no}; f [g] [g]", "if {[add 1 2] == 3} {f yes} else {f no}", "while {[incr i] < 4} {lappend all $i [f $i]}; set all", "foreach {p q} $l {lappend r $q$p}; set r", "set s " + long + "; f $s$s", "set s " + long + "; f \"$s[f $s]\" [set u 1]", "f {*}{a \\{}", "f {*}\\{ [set u 1]", "no $a [set u 1]", "[f list] x", "namespace eval n {f [set v $::a]$v}", "f [[list add] 1 2]", "f {*}[lrepeat 6000 x] {*}[lrepeat 6000 x]", "uplevel 0 {f $a}", "subst {$a[f x]}",
		"f $a; trace add variable a read {f no ;}; f $a [set u 1]", "trace add execution f enter {error e ;}; f [f 1]",
	} {
		held(t, s, func(x *core.Machine) core.Result { return x.Script(s) }, func(x road) core.Result { return x.script(s) })
	}
	for _, s := range []string{
		"1 + 2 * $a", "$a ? [f yes] : [f no]", "0 && [error no]", "1 || [error no]", "$a && [set u 0] || [set u]", "[set u 5] + $no", "$no + [set u 5]", "{x} && [set u 1]", "!$l", "max($a, [add 1 2], $b(k))", "[break]", "1 / [add 0 0]", "$a ? {x} ? 1 : 2 : 3", "\"$a$a\" eq {11}", "no($a)", "[f a] in {{f a}}", "-[add $a $a] ** 2",
	} {
		held(t, s, func(x *core.Machine) core.Result { return x.Expression(s) }, func(x road) core.Result { return x.expression(s) })
	}
}
