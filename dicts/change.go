package dicts

import (
	"strings"

	"threadbare/api"
	"threadbare/basic"
	"threadbare/core"
	"threadbare/dict"
)

// change changes the value of a key of a variable's dictionary; other is what it is if it is not there.
func (a asker) change(other string, form func(value string) core.Result) core.Result {
	ref, r := a.Ref(a.Args[0])
	if !r.Good() {
		return r
	}
	old := a.Old(ref, "")
	if !old.Good() {
		return old
	}
	key := a.Args[1:2]
	value, e := dict.Get(old.Text, key)
	switch e {
	case api.OK:
	case api.ErrNone:
		value = other
	default:
		return core.Fail("dict", old.Text)
	}
	if r = form(value); !r.Good() {
		return r
	}
	return a.put(ref, old.Text, key, r.Text)
}

func (a asker) grow() core.Result {
	return a.change("", func(value string) core.Result {
		return core.OK(value + strings.Join(a.Args[2:], ""))
	})
}

func (a asker) growList() core.Result {
	return a.change("", func(value string) core.Result {
		if len(a.Args) == 2 {
			return core.OK(value)
		}
		l, r := a.List(value)
		if !r.Good() {
			return r
		}
		return core.Join(append(l, a.Args[2:]...))
	})
}

func (a asker) incr() core.Result {
	return a.change("0", func(value string) core.Result { return basic.Sum(value, a.Arg(2, "1")) })
}

// rounds does a body for all pairs of a dictionary; told gets the key, the value and the result of a body that is COk, and may end all.
func (a asker) rounds(names, s, body string, told func(key, value, text string) core.Result) core.Result {
	vars, r := a.List(names)
	switch {
	case !r.Good():
		return r
	case len(vars) != 2:
		return core.Fail("names", names)
	}
	l, e := dict.Pairs(s)
	if e != api.OK {
		return core.Fail("dict", s)
	}
	for i := 0; i < len(l); i += 2 {
		r := a.round(vars, l[i:i+2], body)
		if r.Good() {
			r = told(l[i], l[i+1], r.Text)
		}
		if ends, out := basic.Ended(r); ends {
			return out
		}
	}
	return core.OK("")
}

func (a asker) round(vars, values []string, body string) core.Result {
	if r := a.Step(); !r.Good() {
		return r
	}
	for i, name := range vars {
		if r := a.Write(name, values[i]); !r.Good() {
			return r
		}
	}
	return a.Script(body)
}

func (a asker) each() core.Result {
	return a.rounds(a.Args[0], a.Args[1], a.Args[2], func(_, _, _ string) core.Result { return core.OK("") })
}

func (a asker) mapped() core.Result {
	var l []string
	r := a.rounds(a.Args[0], a.Args[1], a.Args[2], func(key, _, text string) core.Result {
		l = append(l, key, text)
		return core.OK("")
	})
	if !r.Good() {
		return r
	}
	return core.Long(dict.Create(l))
}

func (a asker) filter() core.Result {
	s, kind := a.Args[0], a.Args[1]
	known := kind == "key" || kind == "value" || kind == "script"
	if known && len(a.Args) == 4 != (kind == "script") {
		return core.WordsError(a.Words)
	}
	if kind == "script" {
		return a.filterBy(s, a.Args[2], a.Args[3])
	}
	if r := valid(s); !r.Good() {
		return r
	}
	if !known {
		return core.Fail("option", kind)
	}
	return core.Long(dict.Filter(s, a.Args[2], kind == "value"))
}

func (a asker) filterBy(s, names, body string) core.Result {
	if r := valid(s); !r.Good() {
		return r
	}
	var l []string
	r := a.rounds(names, s, body, func(key, value, text string) core.Result {
		yes, r := core.TruthOf(text)
		if yes {
			l = append(l, key, value)
		}
		return r
	})
	if !r.Good() {
		return r
	}
	return core.Long(dict.Create(l))
}

// binding is a key with the variable that it has during a body.
type binding struct{ key, name string }

func (a asker) update() core.Result {
	if len(a.Args)%2 != 0 {
		return core.WordsError(a.Words)
	}
	last := len(a.Args) - 1
	var l []binding
	for i := 1; i < last; i += 2 {
		l = append(l, binding{a.Args[i], a.Args[i+1]})
	}
	return a.during(a.Args[last], func(string) []binding { return l })
}

func (a asker) with() core.Result {
	return a.during(a.Args[1], func(s string) []binding {
		var l []binding
		keys, _ := dict.Keys(s, "*")
		for _, key := range keys {
			l = append(l, binding{key, key})
		}
		return l
	})
}

// during does a body while keys are variables; they are written back whatever it tells.
func (a asker) during(body string, bound func(s string) []binding) (r core.Result) {
	ref, r := a.Ref(a.Args[0])
	if !r.Good() {
		return r
	}
	old := a.ReadRef(ref)
	if !old.Good() {
		return old
	}
	if r := valid(old.Text); !r.Good() {
		return r
	}
	l := bound(old.Text)
	for _, b := range l {
		if r := a.lend(old.Text, b); !r.Good() {
			return r
		}
	}
	defer func() {
		if r.Code == api.CStop {
			return
		}
		if back := a.writeBack(ref, l); !back.Good() && (r.Good() || back.Code == api.CStop) {
			r = back
		}
	}()
	return a.Script(body)
}

// lend sets a variable to the value of its key.
func (a asker) lend(s string, b binding) core.Result {
	value, e := dict.Get(s, []string{b.key})
	if e == api.OK {
		return a.Write(b.name, value)
	}
	ref, r := a.Ref(b.name)
	if !r.Good() || a.Kind(ref) == 0 {
		return r
	}
	return a.UnsetRef(ref)
}

func (a asker) writeBack(ref core.Ref, l []binding) core.Result {
	now := a.ReadRef(ref)
	if !now.Good() {
		return now
	}
	s := now
	if r := valid(now.Text); !r.Good() {
		return r
	}
	for _, b := range l {
		from, r := a.Ref(b.name)
		if !r.Good() {
			return r
		}
		if a.Kind(from) == 0 {
			s = core.Long(dict.Remove(s.Text, []string{b.key}))
		} else {
			value := a.ReadRef(from)
			if !value.Good() {
				return value
			}
			s = core.Long(dict.Set(s.Text, []string{b.key}, value.Text))
		}
		if !s.Good() {
			return s
		}
	}
	return a.WriteRef(ref, s.Text)
}
