package core

import (
	"maps"
	"slices"

	"threadbare/api"
)

// within reports whether the machine is another one, or below it.
func (x *Machine) within(y *Machine) bool {
	for m := x; m != nil; m = m.Maker {
		if m == y {
			return true
		}
	}
	return false
}

// Into does something in a machine of the family, in its global scope and namespace, for this one. What ends the script of that machine, or of one between them, is an error here, but not within or below the machine that it ends; a tail call is not done.
func (x *Machine) Into(y *Machine, do func() Result) Result {
	defer y.back(y.frames)
	y.frames = y.frames[:1:1]
	r := do()
	if r.Code == api.CStop && r.From != nil && !x.within(r.From) {
		return Error(r.Text)
	}
	return Caught(r)
}

// InvokeFound does a command that was found otherwise than by its name, with a step.
func (x *Machine) InvokeFound(number int, words []string) Result {
	if r := x.Step(); !r.Good() {
		return r
	}
	return x.resolved(x.Do(number, words))
}

// Numbers returns the numbers of all commands that are no imports, ascending.
func (x *Machine) Numbers() []int { return slices.Sorted(maps.Keys(x.commands)) }

// Drop takes a command away, and nothing is told of it.
func (x *Machine) Drop(number int) {
	hooks := x.Hooks.Gone
	x.Hooks.Gone = nil
	x.Remove(number)
	x.Hooks.Gone = hooks
}
