package code

import (
	"threadbare/api"
	"threadbare/expr"
	"threadbare/parse"
)

// stop is what leaves a turning.
type stop struct{ e api.Errno }

// turning does what turns, and returns the error that left it.
func turning(do func()) (e api.Errno) {
	defer func() {
		switch x := recover().(type) {
		case nil:
		case stop:
			e = x.e
		default:
			panic(x)
		}
	}()
	do()
	return api.OK
}

// block is a list of instructions that grows.
type block struct {
	list []api.Instr
}

func (b *block) add(op, a int, s string) {
	b.list = append(b.list, api.Instr{Op: op, A: a, S: s})
}

// jump adds a jump whose place is not known yet, and returns what lands it at the next instruction.
func (b *block) jump(op int) (land func()) {
	at := len(b.list)
	b.add(op, 0, "")
	return func() { b.list[at].A = len(b.list) }
}

// maker turns scripts and expressions.
type maker struct {
	block
}

func (m *maker) script(s string) {
	l, _, e := parse.Script(s)
	if e != api.OK {
		panic(stop{e})
	}
	m.commands(l)
}

func (m *maker) commands(l []api.Command) {
	if len(l) == 0 {
		m.add(api.IPush, 0, "")
	}
	for i, c := range l {
		if i > 0 {
			m.add(api.IDrop, 0, "")
		}
		m.add(api.IBegin, 0, "")
		for _, w := range c.Words {
			m.tokens(w.Tokens)
			if w.Spread {
				m.add(api.ISpread, 0, "")
			} else {
				m.add(api.IAdd, 0, "")
			}
		}
		m.add(api.ICall, 0, "")
	}
}

func (m *maker) tokens(l []api.Token) {
	for _, t := range l {
		switch {
		case t.Kind == api.TScript:
			m.script(t.Text)
		case t.Kind == api.TVar && t.HasIndex:
			m.tokens(t.Index)
			m.add(api.IElem, 0, t.Text)
		case t.Kind == api.TVar:
			m.add(api.ILoad, 0, t.Text)
		default:
			m.add(api.IPush, 0, t.Text)
		}
	}
	if len(l) != 1 {
		m.add(api.IJoin, len(l), "")
	}
}

func (m *maker) node(n api.Node) {
	switch {
	case n.Kind == api.NWord:
		m.tokens(n.Word.Tokens)
	case n.Kind == api.NOp && (n.Text == "&&" || n.Text == "||"):
		m.both(n)
	case n.Kind == api.NOp && n.Text == "?":
		m.choice(n)
	default:
		for _, a := range n.Args {
			m.node(a)
		}
		name := n.Text
		if n.Kind == api.NCall {
			name += "()"
		}
		m.add(api.IOp, len(n.Args), name)
	}
}

func (m *maker) truth(n api.Node) {
	m.node(n)
	m.add(api.ITruth, 0, "")
}

func (m *maker) both(n api.Node) {
	op, known := api.IFalse, "0"
	if n.Text == "||" {
		op, known = api.ITrue, "1"
	}
	m.truth(n.Args[0])
	short := m.jump(op)
	m.truth(n.Args[1])
	end := m.jump(api.IJump)
	short()
	m.add(api.IPush, 0, known)
	end()
}

func (m *maker) choice(n api.Node) {
	m.truth(n.Args[0])
	no := m.jump(api.IFalse)
	m.node(n.Args[1])
	end := m.jump(api.IJump)
	no()
	m.node(n.Args[2])
	end()
}

// Script turns a script.
func Script(s string) (c []api.Instr, at int, e api.Errno) {
	l, at, e := parse.Script(s)
	if e != api.OK {
		return nil, at, e
	}
	var m maker
	if e := turning(func() { m.commands(l) }); e != api.OK {
		return nil, 0, e
	}
	return m.list, 0, api.OK
}

// Expr turns an expression.
func Expr(s string) (c []api.Instr, at int, e api.Errno) {
	n, at, e := expr.Parse(s)
	if e != api.OK {
		return nil, at, e
	}
	var m maker
	if e := turning(func() { m.node(n) }); e != api.OK {
		return nil, 0, e
	}
	return m.list, 0, api.OK
}

// Word turns a word.
func Word(w api.Word) ([]api.Instr, api.Errno) {
	var m maker
	if e := turning(func() { m.tokens(w.Tokens) }); e != api.OK {
		return nil, e
	}
	return m.list, api.OK
}
