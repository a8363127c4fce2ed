package core

import (
	"strconv"

	"threadbare/api"
	"threadbare/list"
	"threadbare/names"
)

// installBase lays the commands of layer 19.
func (x *Machine) installBase() {
	x.Install("set", 1, 2, doSet)
	x.Install("unset", 0, -1, doUnset)
	x.Install("list", 0, -1, func(x *Machine, words []string) Result { return Join(words[1:]) })
	x.Install("eval", 1, -1, concatenated((*Machine).Script))
	x.Install("expr", 1, -1, concatenated((*Machine).Expression))
	x.Install("catch", 1, 2, doCatch)
	x.Install("error", 1, 1, func(x *Machine, words []string) Result { return Error(words[1]) })
	x.Install("return", 0, 3, doReturn)
	x.Install("rename", 2, 2, doRename)
	x.Install("steps", 0, 0, func(x *Machine, words []string) Result { return OK(strconv.Itoa(x.Steps)) })
}

// Concat returns the word, or several put together as a script is.
func Concat(words []string) Result {
	if len(words) == 1 {
		return OK(words[0])
	}
	s := list.Concat(words)
	if len(s) > api.MaxText {
		return Error("long")
	}
	return OK(s)
}

// concatenated is a command that evaluates its words.
func concatenated(evaluate func(x *Machine, s string) Result) Command {
	return func(x *Machine, words []string) Result {
		r := Concat(words[1:])
		if !r.Good() {
			return r
		}
		return evaluate(x, r.Text)
	}
}

func doSet(x *Machine, words []string) Result {
	if len(words) == 2 {
		return x.Read(words[1])
	}
	return x.Write(words[1], words[2])
}

func doUnset(x *Machine, words []string) Result {
	for _, w := range words[1:] {
		ref, r := x.Ref(w)
		if r.Good() {
			r = x.UnsetRef(ref)
		}
		if !r.Good() {
			return r
		}
	}
	return OK("")
}

// Caught is what catches an outcome: its code and its text; a tail call is code 2 and the empty text.
func Caught(r Result) Result {
	if r.Tail != nil {
		return Result{Outcome: api.Outcome{Code: r.Code, Then: r.Then}}
	}
	return r
}

func doCatch(x *Machine, words []string) Result {
	r := Caught(x.Script(words[1]))
	if r.Code == api.CStop {
		return r
	}
	if len(words) == 3 {
		if e := x.Write(words[2], r.Text); !e.Good() {
			return e
		}
	}
	return OK(strconv.Itoa(r.Code))
}

// ReadCode returns the code of an outcome that a word tells.
func ReadCode(s string) (int, bool) {
	for i, name := range []string{"ok", "error", "return", "break", "continue"} {
		if s == name || s == strconv.Itoa(i) {
			return i, true
		}
	}
	return 0, false
}

func doReturn(x *Machine, words []string) Result {
	r := Code(api.CReturn, "")
	switch n := len(words); {
	case n == 1:
		return r
	case n == 2:
		r.Text = words[1]
		return r
	case words[1] != "-code":
		return WordsError(words)
	case n == 4:
		r.Text = words[3]
	}
	then, ok := ReadCode(words[2])
	if !ok {
		return Fail("option", words[2])
	}
	r.Then = then
	return r
}

func doRename(x *Machine, words []string) Result {
	n := x.Find(x.Space(), words[1])
	if n == 0 {
		return Fail("command", words[1])
	}
	if words[2] == "" {
		return x.Remove(n)
	}
	full, r := x.Fresh(words[2])
	if !r.Good() {
		return r
	}
	old, _, _ := x.table.Name(n)
	if e := x.table.Rename(old, full); e != api.OK {
		return Fail("exists", words[2])
	}
	if x.Hooks.Renamed != nil {
		return x.Hooks.Renamed(x, n, old, full)
	}
	return OK("")
}

// Called returns the namespace in which a command stands.
func (x *Machine) Called(number int) string {
	origin, _ := x.table.Origin(number)
	name, _, _ := x.table.Name(origin)
	return names.Head(name)
}
