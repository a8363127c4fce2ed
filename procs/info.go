package procs

import (
	"slices"
	"strconv"

	"threadbare/api"
	"threadbare/big"
	"threadbare/core"
	"threadbare/dict"
	"threadbare/names"
	"threadbare/parse"
	"threadbare/text"
	"threadbare/vars"
)

// asker is what the sub commands of this layer ask.
type asker struct {
	core.Asker
}

func infos() map[string]core.Sub[asker] {
	return map[string]core.Sub[asker]{
		"exists":   {Least: 1, Most: 1, Do: asker.exists},
		"level":    {Least: 0, Most: 1, Do: asker.level},
		"body":     {Least: 1, Most: 1, Do: asker.body},
		"args":     {Least: 1, Most: 1, Do: asker.args},
		"default":  {Least: 3, Most: 3, Do: asker.byDefault},
		"commands": {Least: 0, Most: 1, Do: asker.commands},
		"procs":    {Least: 0, Most: 1, Do: asker.procs},
		"vars":     {Least: 0, Most: 1, Do: asker.vars},
		"locals":   {Least: 0, Most: 1, Do: asker.locals},
		"globals":  {Least: 0, Most: 1, Do: asker.globals},
		"complete": {Least: 1, Most: 1, Do: asker.complete},
	}
}

func (a asker) exists() core.Result {
	ref, r := a.Ref(a.Args[0])
	return core.Truth(r.Good() && a.Kind(ref) != 0)
}

func (a asker) level() core.Result {
	if len(a.Args) == 0 {
		return core.OK(strconv.Itoa(a.Level()))
	}
	word := a.Args[0]
	if _, e := big.Canonical(word); e != api.OK {
		return core.NumberError(e, word)
	}
	n, e := big.Int(word)
	if n <= 0 && e == api.OK {
		n = max(n, -1-a.Level()) + a.Level()
	}
	if e != api.OK || n < 1 || n > a.Level() {
		return core.Fail("level", word)
	}
	return joined(a.FrameAt(n).Words)
}

// procedure returns the procedure that a name means.
func (a asker) procedure() (*Procedure, core.Result) {
	n := a.Find(a.Space(), a.Args[0])
	if n == 0 {
		return nil, core.Fail("command", a.Args[0])
	}
	if p, ok := a.Entry(n).Kind.(*Procedure); ok {
		return p, core.OK("")
	}
	return nil, core.Fail("proc", a.Args[0])
}

func (a asker) body() core.Result {
	p, r := a.procedure()
	if !r.Good() {
		return r
	}
	return core.OK(p.Body)
}

func (a asker) args() core.Result {
	p, r := a.procedure()
	if !r.Good() {
		return r
	}
	var l []string
	for _, one := range p.list {
		l = append(l, one.name)
	}
	return joined(l)
}

func (a asker) byDefault() core.Result {
	p, r := a.procedure()
	if !r.Good() {
		return r
	}
	for _, one := range p.list {
		if one.name == a.Args[1] {
			if r := a.Write(a.Args[2], one.value); !r.Good() {
				return r
			}
			return core.Truth(one.has)
		}
	}
	return core.Fail("param", a.Args[1])
}

// told returns the tails of the commands in the current namespace and :: that a pattern matches, and that are wanted.
func (a asker) told(wanted func(n int) bool) core.Result {
	var l []string
	for _, name := range a.Table().Names("*") {
		head, tail := names.Head(name), names.Tail(name)
		if (head == "::" || head == a.Space()) && text.Glob(a.Arg(0, "*"), tail, false) && wanted(a.Table().Find(name)) {
			l = append(l, tail)
		}
	}
	slices.Sort(l)
	return joined(slices.Compact(l))
}

func (a asker) commands() core.Result { return a.told(func(int) bool { return true }) }

func (a asker) procs() core.Result {
	return a.told(func(n int) bool {
		_, ok := a.Entry(n).Kind.(*Procedure)
		return ok
	})
}

func (a asker) vars() core.Result {
	return joined(a.Vars().Names(a.Frame().Scope, a.Arg(0, "*")))
}

func (a asker) locals() core.Result {
	if a.Level() == 0 {
		return core.OK("")
	}
	scope := a.Frame().Scope
	l := a.Vars().Names(scope, a.Arg(0, "*"))
	return joined(slices.DeleteFunc(l, func(name string) bool { return a.Vars().Linked(scope, name) }))
}

func (a asker) globals() core.Result { return joined(a.Vars().Names(0, a.Arg(0, "*"))) }

func (a asker) complete() core.Result { return core.Truth(parse.Complete(a.Args[0])) }

func arrays() map[string]core.Sub[asker] {
	on := func(do func(a asker, ref core.Ref) core.Result) func(a asker) core.Result {
		return func(a asker) core.Result {
			ref, r := a.Ref(a.Args[0])
			if !r.Good() {
				return r
			}
			return do(a, ref)
		}
	}
	return map[string]core.Sub[asker]{
		"exists": {Least: 1, Most: 1, Do: on(asker.isArray)},
		"size":   {Least: 1, Most: 1, Do: on(asker.size)},
		"names":  {Least: 1, Most: 2, Do: on(asker.keys)},
		"get":    {Least: 1, Most: 2, Do: on(asker.get)},
		"set":    {Least: 2, Most: 2, Do: on(asker.set)},
		"unset":  {Least: 1, Most: 2, Do: on(asker.unset)},
	}
}

// indexes returns the indexes of an array that the pattern matches; none of what is no array.
func (a asker) indexes(ref core.Ref) []string {
	if ref.Element {
		return nil
	}
	l, _ := a.Vars().Keys(ref.Scope, ref.Name, a.Arg(1, "*"))
	return l
}

// at returns an element of an array.
func at(ref core.Ref, index string) core.Ref {
	ref.Word = vars.Word{Name: ref.Name, Index: index, Element: true}
	ref.Written += "(" + index + ")"
	return ref
}

func (a asker) isArray(ref core.Ref) core.Result { return core.Truth(a.Kind(ref) == 2) }

func (a asker) size(ref core.Ref) core.Result { return core.OK(strconv.Itoa(len(a.indexes(ref)))) }

func (a asker) keys(ref core.Ref) core.Result { return joined(a.indexes(ref)) }

func (a asker) get(ref core.Ref) core.Result {
	var l []string
	for _, index := range a.indexes(ref) {
		r := a.ReadRef(at(ref, index))
		if !r.Good() {
			return r
		}
		l = append(l, index, r.Text)
	}
	return joined(l)
}

func (a asker) set(ref core.Ref) core.Result {
	l, e := dict.Pairs(a.Args[1])
	switch {
	case e != api.OK:
		return core.Fail("dict", a.Args[1])
	case ref.Element || a.Vars().MakeArray(ref.Scope, ref.Name) != api.OK:
		return core.Fail("array", ref.Written)
	}
	for i := 0; i < len(l); i += 2 {
		if r := a.WriteRef(at(ref, l[i]), l[i+1]); !r.Good() {
			return r
		}
	}
	return core.OK("")
}

func (a asker) unset(ref core.Ref) core.Result {
	if a.Kind(ref) != 2 {
		return core.OK("")
	}
	if len(a.Args) == 1 {
		return a.UnsetRef(ref)
	}
	for _, index := range a.indexes(ref) {
		one := at(ref, index)
		if a.Kind(one) == 0 {
			continue // a trace was ahead
		}
		if r := a.UnsetRef(one); !r.Good() {
			return r
		}
	}
	return core.OK("")
}
