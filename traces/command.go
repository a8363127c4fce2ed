package traces

import (
	"slices"
	"strconv"

	"threadbare/api"
	"threadbare/core"
	"threadbare/list"
	"threadbare/vars"
)

func codeText(code int) string { return strconv.Itoa(code) }

// operationsOf returns the operations of a kind; none for another kind.
func operationsOf(kind string) []string {
	return map[string][]string{
		"variable":  {"read", "write", "unset"},
		"command":   {"rename", "delete"},
		"execution": {"enter", "leave"},
	}[kind]
}

// Operations returns the operations that a list tells for a kind.
func Operations(kind, ops string) ([]string, api.Errno) {
	known := operationsOf(kind)
	if known == nil {
		return nil, api.ErrName
	}
	l, _, e := list.Split(ops)
	if e != api.OK || len(l) == 0 {
		return nil, api.ErrSyntax
	}
	var r []string
	for _, op := range l {
		if !slices.Contains(known, op) {
			return nil, api.ErrRange
		}
		if !slices.Contains(r, op) {
			r = append(r, op)
		}
	}
	return r, api.OK
}

// readOperations is Operations with the errors of scripts.
func readOperations(kind, ops string) ([]string, core.Result) {
	r, e := Operations(kind, ops)
	switch e {
	case api.OK:
		return r, core.OK("")
	case api.ErrRange:
		l, _, _ := list.Split(ops)
		for _, op := range l {
			if !slices.Contains(operationsOf(kind), op) {
				return nil, core.Fail("option", op)
			}
		}
	}
	if _, _, e := list.Split(ops); e == api.ErrLimit {
		return nil, core.Error("long")
	}
	return nil, core.Fail("list", ops)
}

// thing is what is traced: where its traces lie.
type thing struct {
	get func() *traces
	set func(t *traces)
}

// find returns what a name means for a kind.
func (l *lay) find(x *core.Machine, kind, name string) (thing, core.Result) {
	if kind == "variable" {
		c, r := cellOf(x, name)
		return thing{func() *traces { return noteOf(c) }, func(t *traces) { c.Note = t }}, r
	}
	n := x.Find(x.Space(), name)
	if n == 0 {
		return thing{}, core.Fail("command", name)
	}
	all := l.commands
	if kind == "execution" {
		all = l.executions
	}
	return thing{func() *traces { return all[n] }, func(t *traces) { all[n] = t }}, core.OK("")
}

func cellOf(x *core.Machine, name string) (*vars.Cell, core.Result) {
	ref, r := x.Ref(name)
	if !r.Good() {
		return nil, r
	}
	c, e := x.Vars().Find(ref.Scope, ref.Word)
	return c, core.VarError(e, name)
}

func doTrace(x *core.Machine, words []string) core.Result {
	subs := map[string]func(l *lay, x *core.Machine, kind string, args []string) core.Result{"add": (*lay).add, "remove": (*lay).remove, "info": (*lay).info}
	do, ok := subs[words[1]]
	count := 6
	if words[1] == "info" {
		count = 4
	}
	switch {
	case !ok:
		return core.Fail("option", words[1])
	case len(words) < 3:
		return core.WordsError(words)
	case operationsOf(words[2]) == nil:
		return core.Fail("option", words[2])
	case len(words) != count:
		return core.WordsError(words)
	}
	return do(of(x), x, words[2], words[3:])
}

func (l *lay) add(x *core.Machine, kind string, args []string) core.Result {
	where, r := l.find(x, kind, args[0])
	if !r.Good() {
		return r
	}
	ops, r := readOperations(kind, args[1])
	if !r.Good() {
		return r
	}
	words, r := x.List(args[2])
	if !r.Good() {
		return r
	}
	t := where.get()
	if t == nil {
		t = &traces{}
		where.set(t)
	}
	t.list = append(slices.Clone(t.list), &trace{ops: ops, prefix: args[2], words: words})
	switch kind {
	case "variable":
		x.Traced = true
	case "execution":
		l.watch(x)
	}
	return core.OK("")
}

func sameOps(a, b []string) bool {
	return slices.Equal(slices.Sorted(slices.Values(a)), slices.Sorted(slices.Values(b)))
}

func (l *lay) remove(x *core.Machine, kind string, args []string) core.Result {
	where, r := l.find(x, kind, args[0])
	if !r.Good() {
		return r
	}
	ops, r := readOperations(kind, args[1])
	if !r.Good() {
		return r
	}
	t := where.get()
	if t == nil {
		return core.OK("")
	}
	for i, one := range slices.Backward(t.list) {
		if one.prefix == args[2] && sameOps(one.ops, ops) {
			one.gone = true
			t.list = slices.Delete(slices.Clone(t.list), i, i+1)
			break
		}
	}
	return core.OK("")
}

func (l *lay) info(x *core.Machine, kind string, args []string) core.Result {
	where, r := l.find(x, kind, args[0])
	if !r.Good() {
		return r
	}
	t := where.get()
	if t == nil {
		return core.OK("")
	}
	var told []string
	for _, one := range slices.Backward(t.list) {
		ops, _ := list.Join(one.ops)
		pair, e := list.Join([]string{ops, one.prefix})
		if e != api.OK {
			return core.Error("long")
		}
		told = append(told, pair)
	}
	return core.Join(told)
}
