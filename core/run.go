package core

import (
	"strings"

	"threadbare/api"
	"threadbare/code"
	"threadbare/expr"
)

// runner runs code in a machine.
type runner struct {
	*Machine
	stack []string
	begun [][]string
	at    int
	out   Result // of an instruction that ends all
}

// operations are what instructions do, by their Op. Each tells whether it goes on.
func operations() [api.ITrue + 1]func(r *runner, i *api.Instr) bool {
	return [api.ITrue + 1]func(r *runner, i *api.Instr) bool{
		api.IPush:   (*runner).doPush,
		api.ILoad:   (*runner).doLoad,
		api.IElem:   (*runner).doElem,
		api.IJoin:   (*runner).doJoin,
		api.IBegin:  (*runner).doBegin,
		api.IAdd:    (*runner).doAdd,
		api.ISpread: (*runner).doSpread,
		api.ICall:   (*runner).doCall,
		api.IDrop:   (*runner).doDrop,
		api.IOp:     (*runner).doOp,
		api.ITruth:  (*runner).doTruth,
		api.IJump:   (*runner).doJump,
		api.IFalse:  (*runner).doFalse,
		api.ITrue:   (*runner).doTrue,
	}
}

// Run runs sound code.
func (x *Machine) Run(c []api.Instr) Result {
	r := &runner{Machine: x}
	for r.at < len(c) {
		i := &c[r.at]
		r.at++
		if !x.ops[i.Op](r, i) {
			return r.out
		}
	}
	if len(r.stack) == 0 {
		return OK("")
	}
	return OK(r.pop())
}

func (r *runner) end(out Result) bool {
	r.out = out
	return false
}

func (r *runner) push(s string) bool {
	r.stack = append(r.stack, s)
	return true
}

func (r *runner) pop() string {
	last := len(r.stack) - 1
	s := r.stack[last]
	r.stack = r.stack[:last]
	return s
}

// told pushes the text of a result, or ends with it.
func (r *runner) told(out Result) bool {
	if !out.Good() {
		return r.end(out)
	}
	return r.push(out.Text)
}

func (r *runner) doPush(i *api.Instr) bool { return r.push(i.S) }

func (r *runner) doLoad(i *api.Instr) bool { return r.told(r.Read(i.S)) }

func (r *runner) doElem(i *api.Instr) bool {
	return r.told(r.Read(i.S + "(" + r.pop() + ")"))
}

func (r *runner) doJoin(i *api.Instr) bool {
	from := len(r.stack) - i.A
	s := strings.Join(r.stack[from:], "")
	r.stack = r.stack[:from]
	if len(s) > api.MaxText {
		return r.end(Error("long"))
	}
	return r.push(s)
}

func (r *runner) doBegin(i *api.Instr) bool {
	r.begun = append(r.begun, nil)
	return true
}

func (r *runner) doAdd(i *api.Instr) bool {
	s := r.pop()
	if len(s) > api.MaxText {
		return r.end(Error("long"))
	}
	top := &r.begun[len(r.begun)-1]
	*top = append(*top, s)
	return true
}

func (r *runner) doSpread(i *api.Instr) bool {
	s := r.pop()
	if len(s) > api.MaxText {
		return r.end(Error("long"))
	}
	l, out := r.List(s)
	if !out.Good() {
		return r.end(out)
	}
	top := &r.begun[len(r.begun)-1]
	*top = append(*top, l...)
	return true
}

func (r *runner) doCall(i *api.Instr) bool {
	last := len(r.begun) - 1
	words := r.begun[last]
	r.begun = r.begun[:last]
	return r.told(r.Invoke(words))
}

func (r *runner) doDrop(i *api.Instr) bool {
	r.pop()
	return true
}

func (r *runner) doOp(i *api.Instr) bool {
	from := len(r.stack) - i.A
	args := make([]string, i.A)
	copy(args, r.stack[from:])
	r.stack = r.stack[:from]
	for _, a := range args {
		if len(a) > api.MaxText {
			return r.end(Error("long"))
		}
	}
	s, problem := code.Operate(i.S, args)
	if problem != "" {
		return r.end(Error(problem))
	}
	return r.push(s)
}

func (r *runner) doTruth(i *api.Instr) bool {
	s := r.pop()
	if len(s) > api.MaxText {
		return r.end(Error("long"))
	}
	yes, problem := expr.Truth(s)
	if problem != "" {
		return r.end(Error(problem))
	}
	if yes {
		return r.push("1")
	}
	return r.push("0")
}

func (r *runner) doJump(i *api.Instr) bool {
	r.at = i.A
	return true
}

func (r *runner) doFalse(i *api.Instr) bool {
	if r.pop() == "0" {
		r.at = i.A
	}
	return true
}

func (r *runner) doTrue(i *api.Instr) bool {
	if r.pop() == "1" {
		r.at = i.A
	}
	return true
}

// Deeper does something as one more script.
func (x *Machine) Deeper(do func() Result) Result {
	if x.Depth >= api.MaxDeep {
		return Error("deep")
	}
	x.Depth++
	defer func() { x.Depth-- }()
	return do()
}

// Script evaluates a script.
func (x *Machine) Script(s string) Result {
	return x.Deeper(func() Result {
		c := x.faces.script(s)
		if c.e != api.OK {
			return Fail("script", s)
		}
		return x.Run(c.list)
	})
}

// Expression evaluates an expression.
func (x *Machine) Expression(s string) Result {
	c := x.faces.expr(s)
	if c.e != api.OK {
		return Fail("expr", s)
	}
	r := x.Run(c.list)
	if r.Good() && len(r.Text) > api.MaxText {
		return Error("long")
	}
	return r
}

// Condition evaluates an expression that must be a truth.
func (x *Machine) Condition(s string) (bool, Result) {
	r := x.Expression(s)
	if !r.Good() {
		return false, r
	}
	yes, problem := expr.Truth(r.Text)
	return yes, Problem(problem)
}

// TruthOf returns whether a text is true.
func TruthOf(s string) (bool, Result) {
	yes, problem := expr.Truth(s)
	return yes, Problem(problem)
}
