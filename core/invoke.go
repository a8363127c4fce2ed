package core

import (
	"maps"
	"slices"

	"threadbare/api"
	"threadbare/list"
	"threadbare/names"
)

// Frame returns the current level.
func (x *Machine) Frame() *Frame { return x.frames[len(x.frames)-1] }

// Space returns the current namespace.
func (x *Machine) Space() string { return x.Frame().Space }

// Level returns the number of the current level.
func (x *Machine) Level() int { return len(x.frames) - 1 }

// FrameAt returns a level.
func (x *Machine) FrameAt(level int) *Frame { return x.frames[level] }

// At does something at a level further out, as if those within were not there.
func (x *Machine) At(level int, do func() Result) Result {
	defer x.back(x.frames)
	x.frames = x.frames[: level+1 : level+1]
	return do()
}

// Within does something at a new level.
func (x *Machine) Within(f *Frame, do func() Result) Result {
	defer x.back(x.frames)
	x.frames = append(x.frames[:len(x.frames):len(x.frames)], f)
	return do()
}

func (x *Machine) back(frames []*Frame) { x.frames = frames }

// InCall does something at a new level with a scope of its own.
func (x *Machine) InCall(f *Frame, do func() Result) Result {
	f.Scope = x.vars.Push()
	defer x.vars.Pop()
	return x.Within(f, do)
}

// Step takes a step: that of the machine, and of all that made it.
func (x *Machine) Step() Result {
	if x.Steps <= 0 {
		return Code(api.CStop, "steps")
	}
	for m := x; m != nil; m = m.Maker {
		if m.Deleted {
			return m.stopped("deleted")
		}
		if m.Limit == 0 {
			return m.stopped("limit")
		}
	}
	x.Steps--
	for m := x; m != nil; m = m.Maker {
		if m.Limit > 0 {
			m.Limit--
		}
	}
	return OK("")
}

// stopped ends the machine's script.
func (x *Machine) stopped(why string) Result {
	r := Code(api.CStop, why)
	r.From = x
	return r
}

// Invoke does the command of words, found in the current namespace.
func (x *Machine) Invoke(words []string) Result { return x.InvokeIn(x.Space(), words) }

// InvokeIn does the command of words, found in a namespace. The tail call of a procedure that has ended is done here, so that a chain of them is no deeper than its first one.
func (x *Machine) InvokeIn(space string, words []string) Result {
	return x.resolved(x.once(space, words))
}

// resolved does the tail calls of a procedure that has ended.
func (x *Machine) resolved(r Result) Result {
	for r.Good() && r.Tail != nil {
		r = x.once(r.Tail.Space, r.Tail.Words)
	}
	return r
}

// Resolved does the tail calls of a procedure that has ended.
func (x *Machine) Resolved(r Result) Result { return x.resolved(r) }

// InvokeAny is Invoke in ::, however many words there are.
func (x *Machine) InvokeAny(words []string) Result { return x.resolved(x.first("::", words)) }

// once does a command; its own tail call is not done.
func (x *Machine) once(space string, words []string) Result {
	if len(words) == 0 {
		return OK("")
	}
	if len(words) > api.MaxList {
		return Error("long")
	}
	return x.first(space, words)
}

// first does the command of the first one of some words.
func (x *Machine) first(space string, words []string) Result {
	if r := x.Step(); !r.Good() {
		return r
	}
	n := x.Find(space, words[0])
	if n == 0 {
		return x.unknown(words)
	}
	return x.Do(n, words)
}

// unknown does what the unknown texts tell of a command that there is not.
func (x *Machine) unknown(words []string) Result {
	for _, space := range []string{x.Space(), "::"} {
		s, _ := x.tree.Unknown(space)
		if s == "" {
			continue
		}
		l, r := x.List(s)
		if !r.Good() {
			return r
		}
		l = append(l, words...)
		if len(l) > api.MaxList {
			return Error("long")
		}
		if r := x.Step(); !r.Good() {
			return r
		}
		n := x.Find(x.Space(), l[0])
		if n == 0 {
			return Fail("command", l[0])
		}
		return x.Do(n, l)
	}
	return Fail("command", words[0])
}

// Do does a command that was found. Its tail call is left to who invokes it, but where it is told how the command ended.
func (x *Machine) Do(number int, words []string) Result {
	if x.Hooks.Enter != nil {
		if r := x.Hooks.Enter(x, number, words); !r.Good() {
			return r
		}
	}
	r := x.do(number, words)
	if x.Hooks.Watched != nil && x.Hooks.Watched(x, number) {
		r = x.resolved(r)
	}
	if gone := x.cut(); gone != nil && r.Code != api.CStop {
		return gone.stopped("deleted")
	}
	if x.Hooks.Leave != nil && r.Code != api.CStop {
		r = x.Hooks.Leave(x, number, words, r)
	}
	return r
}

// cut returns the machine, of this one and those that made it, that was deleted while it was evaluated.
func (x *Machine) cut() *Machine {
	for m := x; m != nil; m = m.Maker {
		if m.Deleted {
			return m
		}
	}
	return nil
}

func (x *Machine) do(number int, words []string) Result {
	c := x.Entry(number)
	if c == nil {
		return Fail("command", words[0])
	}
	if n := len(words) - 1; n < c.Least || c.Most >= 0 && n > c.Most {
		return WordsError(words)
	}
	r := c.Do(x, words)
	if r.Good() && len(r.Text) > api.MaxText {
		return Error("long")
	}
	return r
}

// Install lays a command in ::, as the machine is made.
func (x *Machine) Install(name string, least, most int, do Command) {
	n, _ := x.table.Define("::" + name)
	x.commands[n] = &Entry{Least: least, Most: most, Do: do, Number: n}
}

// Fresh returns the canonical name that a command is made with: its namespace must be there.
func (x *Machine) Fresh(name string) (string, Result) {
	full := names.Canonical(x.Space(), name)
	if head := names.Head(full); !x.tree.Exists(head) {
		return "", Fail("namespace", head)
	}
	return full, OK("")
}

// Define makes a command with a canonical name; one that had the name goes, with its imports. It can be done while that is told.
func (x *Machine) Define(name string, c *Entry) Result {
	going, olds := x.going(x.table.Find(name))
	c.Number, _ = x.table.Define(name)
	x.commands[c.Number] = c
	return x.tellGone(going, olds)
}

// Import makes a command that stands for another one.
func (x *Machine) Import(name string, origin int) (Result, api.Errno) {
	going, olds := x.going(x.table.Find(name))
	if _, _, e := x.table.Import(name, origin); e != api.OK {
		return OK(""), e
	}
	return x.tellGone(going, olds), api.OK
}

// Remove takes a command away.
func (x *Machine) Remove(number int) Result {
	name, hidden, there := x.table.Name(number)
	if !there {
		return OK("")
	}
	going, olds := x.going(number)
	if hidden {
		// The table deletes by names that are shown: a free one is given for that moment.
		free := name
		for x.table.Find(free) != 0 {
			free += " "
		}
		x.table.Expose(name, free)
		name = free
	}
	x.table.Delete(name)
	return x.tellGone(going, olds)
}

// going returns a command and its imports, each ahead of its own imports, and what they are called.
func (x *Machine) going(number int) (numbers []int, olds []string) {
	var walk func(n int)
	walk = func(n int) {
		name, _, there := x.table.Name(n)
		if !there {
			return
		}
		numbers, olds = append(numbers, n), append(olds, name)
		for _, i := range x.table.Imports(n) {
			walk(i)
		}
	}
	walk(number)
	return numbers, olds
}

func (x *Machine) tellGone(numbers []int, olds []string) Result {
	for _, n := range numbers {
		delete(x.commands, n)
	}
	if len(numbers) > 0 && x.Hooks.Gone != nil {
		return x.Hooks.Gone(x, numbers, olds)
	}
	return OK("")
}

// Join returns the canonical list of elements.
func Join(l []string) Result { return Long(list.Join(l)) }

// InstallAll lays the commands of a layer.
func (x *Machine) InstallAll(commands map[string]Entry) {
	for _, name := range Sorted(commands) {
		c := commands[name]
		x.Install(name, c.Least, c.Most, c.Do)
	}
}

// Sorted returns the names of a layer's commands, ascending.
func Sorted[T any](commands map[string]T) []string {
	return slices.Sorted(maps.Keys(commands))
}
