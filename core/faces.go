package core

import (
	"threadbare/api"
	"threadbare/code"
)

// maxFaces is how much code is kept at most; beyond it all is made anew.
const maxFaces = 4000

// made is the code of a text, or the error of one that is wrong.
type made struct {
	list []api.Instr
	e    api.Errno
}

// meaning is what a name means in a namespace.
type meaning struct{ space, name string }

// faces is what the machine keeps hidden: the code of scripts and expressions by their texts, and what names mean as long as nothing changes.
type faces struct {
	on       bool
	scripts  map[string]made
	exprs    map[string]made
	found    map[meaning]int
	epoch    int
	lastTree int
	tree     int // how often the namespaces were changed
}

func (f *faces) forget() {
	f.scripts, f.exprs, f.found = nil, nil, nil
}

// kept returns the code of a text, made if it is not there.
func kept(m *map[string]made, on bool, s string, make func(s string) ([]api.Instr, int, api.Errno)) made {
	if c, ok := (*m)[s]; ok {
		return c
	}
	l, _, e := make(s)
	c := made{l, e}
	if !on {
		return c
	}
	if *m == nil || len(*m) >= maxFaces {
		*m = map[string]made{}
	}
	(*m)[s] = c
	return c
}

func (f *faces) script(s string) made { return kept(&f.scripts, f.on, s, code.Script) }

func (f *faces) expr(s string) made { return kept(&f.exprs, f.on, s, code.Expr) }

// TreeChanged notes that namespaces came, went or are searched otherwise.
func (x *Machine) TreeChanged() { x.faces.tree++ }

// Find returns the command that a name means in a namespace; 0 if there is none.
func (x *Machine) Find(space, name string) int {
	f := &x.faces
	if f.found == nil || f.epoch != x.table.Epoch() || f.lastTree != f.tree || len(f.found) >= maxFaces {
		f.found = map[meaning]int{}
		f.epoch, f.lastTree = x.table.Epoch(), f.tree
	}
	if n, ok := f.found[meaning{space, name}]; ok {
		return n
	}
	n := x.search(space, name)
	if f.on {
		f.found[meaning{space, name}] = n
	}
	return n
}

// search asks the candidates one after the other. In a namespace that is gone a name is one of ::.
func (x *Machine) search(space, name string) int {
	l, e := x.tree.Candidates(space, name)
	if e != api.OK {
		l, _ = x.tree.Candidates("::", name)
	}
	for _, c := range l {
		if n := x.table.Find(c); n != 0 {
			return n
		}
	}
	return 0
}
