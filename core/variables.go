package core

import (
	"strings"

	"threadbare/api"
	"threadbare/names"
	"threadbare/text"
	"threadbare/vars"
)

// Ref is a variable as a word means it: its scope, its name there, and the word's own name as it was written.
type Ref struct {
	Scope int
	vars.Word
	Written string // the whole word
	Used    string // the name in it
}

// Ref returns what a word means at the current level.
func (x *Machine) Ref(word string) (Ref, Result) {
	return x.RefAt(x.Frame(), vars.Parted(word), word)
}

// RefAt returns what a word in its parts means at a level.
func (x *Machine) RefAt(f *Frame, w vars.Word, word string) (Ref, Result) {
	ref := Ref{Scope: f.Scope, Word: w, Written: word, Used: w.Name}
	if !strings.Contains(w.Name, "::") {
		return ref, OK("")
	}
	tail := names.Tail(w.Name)
	head := names.Canonical(f.Space, strings.TrimSuffix(w.Name, tail))
	if !x.tree.Exists(head) {
		return ref, Fail("namespace", head)
	}
	ref.Scope, ref.Name = x.Room(head), tail
	return ref, OK("")
}

// VarError is the error of a variable.
func VarError(e api.Errno, word string) Result {
	switch e {
	case api.OK:
		return OK("")
	case api.ErrNone:
		return Fail("variable", word)
	}
	return Fail("array", word)
}

// Read returns the value of a variable at the current level.
func (x *Machine) Read(word string) Result {
	ref, r := x.Ref(word)
	if !r.Good() {
		return r
	}
	return x.ReadRef(ref)
}

// ReadRef returns the value of a variable.
func (x *Machine) ReadRef(ref Ref) Result {
	if r := x.reading(ref); !r.Good() {
		return r
	}
	s, e := x.vars.GetAt(ref.Scope, ref.Word)
	if e != api.OK {
		return VarError(e, ref.Written)
	}
	return OK(s)
}

// reading does the read traces of a variable.
func (x *Machine) reading(ref Ref) Result {
	if x.Traced && x.Hooks.Read != nil {
		return x.Hooks.Read(x, ref, x.cell(ref))
	}
	return OK("")
}

// cell returns the cell of a variable; of an element that there is not, that of its array. An element's word of a scalar means none.
func (x *Machine) cell(ref Ref) *vars.Cell {
	c := x.vars.Peek(ref.Scope, ref.Word)
	if c != nil || !ref.Element {
		return c
	}
	c = x.vars.Peek(ref.Scope, vars.Word{Name: ref.Name})
	if c == nil || !c.Divided() {
		return nil
	}
	return c
}

// Cell returns the cell of a variable; of an element that there is not, that of its array.
func (x *Machine) Cell(ref Ref) *vars.Cell { return x.cell(ref) }

// Old returns the value of a variable that is to be changed, or another text if it is not set.
func (x *Machine) Old(ref Ref, other string) Result {
	if r := x.reading(ref); !r.Good() {
		return r
	}
	s, e := x.vars.GetAt(ref.Scope, ref.Word)
	if e == api.ErrNone {
		return OK(other)
	}
	if e != api.OK {
		return VarError(e, ref.Written)
	}
	return OK(s)
}

// Write sets a variable at the current level.
func (x *Machine) Write(word, value string) Result {
	ref, r := x.Ref(word)
	if !r.Good() {
		return r
	}
	return x.WriteRef(ref, value)
}

// WriteRef sets a variable; its text is the value behind the traces.
func (x *Machine) WriteRef(ref Ref, value string) Result {
	if len(value) > api.MaxText {
		return Error("long")
	}
	if e := x.vars.SetAt(ref.Scope, ref.Word, value); e != api.OK {
		return VarError(e, ref.Written)
	}
	if !x.Traced || x.Hooks.Write == nil {
		return OK(value)
	}
	if r := x.Hooks.Write(x, ref, x.cell(ref)); !r.Good() {
		return r
	}
	s, _ := x.vars.GetAt(ref.Scope, ref.Word)
	return OK(s)
}

// UnsetRef unsets a variable.
func (x *Machine) UnsetRef(ref Ref) Result {
	c := x.vars.Peek(ref.Scope, ref.Word)
	if e := x.vars.UnsetAt(ref.Scope, ref.Word); e != api.OK {
		return VarError(e, ref.Written)
	}
	if x.Traced && x.Hooks.Unset != nil {
		return x.Hooks.Unset(x, ref, c)
	}
	return OK("")
}

// UnsetQuietly unsets a variable without its traces being done; they go all the same.
func (x *Machine) UnsetQuietly(ref Ref) {
	c := x.vars.Peek(ref.Scope, ref.Word)
	if c != nil && !x.Busy[c] {
		x.Busy[c] = true
		defer delete(x.Busy, c)
	}
	x.UnsetRef(ref)
}

// Kind returns the kind of a variable.
func (x *Machine) Kind(ref Ref) int { return x.vars.KindAt(ref.Scope, ref.Word) }

// WordsError is the error of a wrong number of words.
func WordsError(words []string) Result { return Error("words: " + text.Detail(words[0])) }
