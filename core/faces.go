package core

import (
	"slices"

	"threadbare/api"
	"threadbare/code"
	"threadbare/list"
	"threadbare/names"
)

// maxFaces and maxKept are how many texts, and how many bytes of them, are kept with their code at most; beyond it all is made anew.
const (
	maxFaces = 4000
	maxKept  = 8000000
)

// made is the code of a text, or the error of one that is wrong.
type made struct {
	list []api.Instr
	e    api.Errno
}

// meaning is what a name means in a namespace.
type meaning struct{ space, name string }

// listFace is the elements of a text; canonical, if the text is their canonical list.
type listFace struct {
	elements  []string
	canonical bool
}

const (
	maxLists  = 64
	shortList = 128 // below this a text is split as fast as it is looked up
)

// faces is what the machine keeps hidden: the code of scripts and expressions by their texts, and what names mean as long as nothing changes.
type faces struct {
	on       bool
	kept     int // bytes of the texts whose code is kept
	scripts  map[string]made
	exprs    map[string]made
	found    map[meaning]int
	lists    map[string]listFace
	epoch    int
	lastTree int
	tree     int // how often the namespaces were changed
}

func (f *faces) forget() {
	f.kept = 0
	f.scripts, f.exprs, f.found, f.lists = nil, nil, nil, nil
}

// code returns the code of a text, made if it is not there.
func (f *faces) code(of *map[string]made, s string, make func(s string) ([]api.Instr, int, api.Errno)) made {
	if c, ok := (*of)[s]; ok {
		return c
	}
	l, _, e := make(s)
	c := made{l, e}
	if !f.on {
		return c
	}
	f.kept += len(s)
	if f.kept > maxKept || len(*of) >= maxFaces {
		f.forget()
		f.kept = len(s)
	}
	if *of == nil {
		*of = map[string]made{}
	}
	(*of)[s] = c
	return c
}

func (f *faces) script(s string) made { return f.code(&f.scripts, s, code.Script) }

func (f *faces) expr(s string) made { return f.code(&f.exprs, s, code.Expr) }

// TreeChanged notes that namespaces came, went or are searched otherwise.
func (x *Machine) TreeChanged() { x.faces.tree++ }

// Find returns the command that a name means in a namespace; 0 if there is none.
func (x *Machine) Find(space, name string) int {
	f := &x.faces
	if f.found == nil || f.epoch != x.table.Epoch() || f.lastTree != f.tree || len(f.found) >= maxFaces {
		f.found = map[meaning]int{}
		f.epoch, f.lastTree = x.table.Epoch(), f.tree
	}
	if n, ok := f.found[meaning{space, name}]; ok {
		return n
	}
	n := x.search(space, name)
	if f.on {
		f.found[meaning{space, name}] = n
	}
	return n
}

// search asks the candidates one after the other. In a namespace that is gone a name is one of ::.
func (x *Machine) search(space, name string) int {
	l, e := x.tree.Candidates(space, name)
	if e != api.OK {
		l = []string{names.Canonical("::", name)}
	}
	for _, c := range l {
		if n := x.table.Find(c); n != 0 {
			return n
		}
	}
	return 0
}

// keepList keeps the elements of a text.
func (f *faces) keepList(s string, l listFace) {
	if !f.on || len(s) < shortList {
		return
	}
	if f.lists == nil || len(f.lists) >= maxLists {
		f.lists = map[string]listFace{}
	}
	f.lists[s] = l
}

// face returns the elements of a text, which must not be changed.
func (x *Machine) face(s string) (listFace, Result) {
	if len(s) >= shortList {
		if l, ok := x.faces.lists[s]; ok {
			return l, OK("")
		}
	}
	l, _, e := list.Split(s)
	if e == api.OK {
		x.faces.keepList(s, listFace{elements: l})
	}
	return listFace{elements: l}, ListError(e, s)
}

// Elements returns the elements of a text, which must not be changed.
func (x *Machine) Elements(s string) ([]string, Result) {
	l, r := x.face(s)
	return l.elements, r
}

// List returns the elements of a text.
func (x *Machine) List(s string) ([]string, Result) {
	l, r := x.face(s)
	return slices.Clone(l.elements), r
}

// Appended returns the canonical list of the elements of a text and of others.
func (x *Machine) Appended(s string, words []string) Result {
	l, r := x.face(s)
	if !r.Good() {
		return r
	}
	all := append(slices.Clip(l.elements), words...)
	if !l.canonical || len(all) > api.MaxList {
		r = Join(all)
	} else if r = Join(words); r.Good() && s != "" {
		r = OK(s + " " + r.Text)
	}
	if !r.Good() || len(r.Text) > api.MaxText {
		return Error("long")
	}
	x.faces.keepList(r.Text, listFace{all, true})
	return r
}
