package objects

import (
	"slices"

	"threadbare/core"
	"threadbare/procs"
)

func commands() map[string]core.Entry {
	return map[string]core.Entry{
		"class": {Least: 0, Most: -1, Do: func(x *core.Machine, words []string) core.Result {
			return core.Dispatch(words, classSubs(), asker{core.NewAsker(x, words)})
		}},
		"object": {Least: 0, Most: -1, Do: func(x *core.Machine, words []string) core.Result {
			return core.Dispatch(words, objectSubs(), asker{core.NewAsker(x, words)})
		}},
		"self": {Least: 0, Most: 1, Do: doSelf},
		"next": {Least: 0, Most: -1, Do: doNext},
		"my":   {Least: 1, Most: -1, Do: doMy},
	}
}

func doSelf(x *core.Machine, words []string) core.Result {
	c, r := callOf(x, "self")
	switch {
	case !r.Good():
		return r
	case len(words) == 1:
		return core.OK(nameOf(x, c.Number))
	case words[1] == "class":
		return core.OK(classOf(x, c.links[c.at]))
	case words[1] == "method":
		return core.OK(c.links[c.at].name)
	}
	return core.Fail("option", words[1])
}

// classOf returns the name of the class that has a method; empty for the object's own.
func classOf(x *core.Machine, l link) string {
	if l.of == nil {
		return ""
	}
	return nameOf(x, l.of.Number)
}

func doNext(x *core.Machine, words []string) core.Result {
	c, r := callOf(x, "next")
	if !r.Good() {
		return r
	}
	if c.at+1 == len(c.links) {
		return core.OK("")
	}
	next := &call{c.object, c.links, c.at + 1}
	return next.do(x, words, words[1:])
}

func doMy(x *core.Machine, words []string) core.Result {
	c, r := callOf(x, "my")
	if !r.Good() {
		return r
	}
	return c.object.invoke(x, words[1], words, words[2:])
}

// asker is what the sub commands ask.
type asker struct {
	core.Asker
}

// ofClass is a sub command of the class that its first word tells.
func ofClass(do func(a asker, c *class) core.Result) func(a asker) core.Result {
	return func(a asker) core.Result {
		c, r := classNamed(a.Machine, a.Args[0])
		if !r.Good() {
			return r
		}
		return do(a, c)
	}
}

// ofObject is a sub command of the object that its first word tells.
func ofObject(do func(a asker, o *object) core.Result) func(a asker) core.Result {
	return func(a asker) core.Result {
		o, r := objectNamed(a.Machine, a.Args[0])
		if !r.Good() {
			return r
		}
		return do(a, o)
	}
}

func (a asker) named(l []*class) core.Result {
	var r []string
	for _, c := range l {
		r = append(r, nameOf(a.Machine, c.Number))
	}
	return core.Join(r)
}

func classSubs() map[string]core.Sub[asker] {
	asked := func(do func(a asker, c *class) core.Result) core.Sub[asker] {
		return core.Sub[asker]{Least: 1, Most: 1, Do: ofClass(do)}
	}
	return map[string]core.Sub[asker]{
		"create":       {Least: 2, Most: 2, Do: asker.create},
		"define":       {Least: 2, Most: -1, Do: ofClass(asker.defineClass)},
		"superclasses": asked(func(a asker, c *class) core.Result { return a.named(c.supers) }),
		"mixins":       asked(func(a asker, c *class) core.Result { return a.named(c.mixins) }),
		"methods":      asked(func(a asker, c *class) core.Result { return core.Join(core.Sorted(c.methods)) }),
		"filters":      asked(func(a asker, c *class) core.Result { return core.Join(c.filters) }),
		"fields":       asked(func(a asker, c *class) core.Result { return core.Join(c.fields) }),
		"order":        asked(func(a asker, c *class) core.Result { return a.named(classes().order(c)) }),
		"instances":    asked(asker.instances),
		"delete":       asked(func(a asker, c *class) core.Result { return c.remove(a.Machine, a.Words) }),
	}
}

func (a asker) instances(c *class) core.Result {
	var l []string
	for _, o := range worldOf(a.Machine).objects {
		if o.class == c {
			l = append(l, nameOf(a.Machine, o.Number))
		}
	}
	return core.Join(l)
}

func (a asker) create() core.Result {
	body, r := a.List(a.Args[1])
	if !r.Good() {
		return r
	}
	var all [][]string
	for _, s := range body {
		words, r := a.List(s)
		if !r.Good() {
			return r
		}
		all = append(all, words)
	}
	full, r := a.Fresh(a.Args[0])
	if !r.Good() {
		return r
	}
	c, r := create(a.Machine, full)
	if !r.Good() {
		return r
	}
	for _, words := range all {
		if r := (definer{a.Machine, words, c, nil}).define(); !r.Good() {
			return r
		}
	}
	return core.OK(full)
}

func (a asker) defineClass(c *class) core.Result {
	return definer{a.Machine, a.Args[1:], c, nil}.define()
}

func objectSubs() map[string]core.Sub[asker] {
	asked := func(do func(a asker, o *object) core.Result) core.Sub[asker] {
		return core.Sub[asker]{Least: 1, Most: 1, Do: ofObject(do)}
	}
	return map[string]core.Sub[asker]{
		"class":   asked(func(a asker, o *object) core.Result { return core.OK(nameOf(a.Machine, o.class.Number)) }),
		"mixins":  asked(func(a asker, o *object) core.Result { return a.named(o.mixins) }),
		"methods": asked(asker.methods),
		"chain":   {Least: 2, Most: 2, Do: ofObject(asker.chain)},
		"isa":     {Least: 2, Most: 2, Do: ofObject(asker.isa)},
		"vars":    asked(func(a asker, o *object) core.Result { return core.Join(o.variables(a.Machine)) }),
		"define":  {Least: 2, Most: -1, Do: ofObject(asker.defineObject)},
		"delete":  asked(func(a asker, o *object) core.Result { return o.remove(a.Machine, a.Words) }),
	}
}

func (a asker) methods(o *object) core.Result {
	all := map[string]bool{}
	for _, c := range o.order() {
		methods := o.methods
		if c != nil {
			methods = c.methods
		}
		for name := range methods {
			all[name] = true
		}
	}
	return core.Join(core.Sorted(all))
}

func (a asker) chain(o *object) core.Result {
	var l []string
	for _, one := range o.chain(a.Args[1]) {
		l = append(l, classOf(a.Machine, one))
	}
	return core.Join(l)
}

func (a asker) isa(o *object) core.Result {
	c, r := classNamed(a.Machine, a.Args[1])
	if !r.Good() {
		return r
	}
	return core.Truth(slices.Contains(o.order(), c))
}

func (a asker) defineObject(o *object) core.Result {
	return definer{a.Machine, a.Args[1:], nil, o}.define()
}

// definer does a definition of a class, or of an object.
type definer struct {
	*core.Machine
	words  []string
	class  *class
	object *object
}

// definition is how many words a definition takes, whether it is one of classes, and of objects, and what it does.
type definition struct {
	least, most        int
	ofClass, ofObjects bool
	do                 func(d definer) core.Result
}

func definitions() map[string]definition {
	return map[string]definition{
		"superclass":   {0, -1, true, false, definer.superclass},
		"mixin":        {0, -1, true, true, definer.mixin},
		"filter":       {0, -1, true, true, definer.filter},
		"field":        {0, -1, true, false, definer.field},
		"method":       {3, 3, true, true, definer.method},
		"forward":      {1, -1, true, true, definer.forward},
		"deletemethod": {1, 1, true, true, definer.deleteMethod},
		"constructor":  {2, 2, true, false, definer.constructor},
		"destructor":   {1, 1, true, false, definer.destructor},
		"class":        {1, 1, false, true, definer.changeClass},
	}
}

func (d definer) define() core.Result {
	if len(d.words) == 0 {
		return core.Fail("option", "")
	}
	f, ok := definitions()[d.words[0]]
	if !ok || d.class != nil && !f.ofClass || d.object != nil && !f.ofObjects {
		return core.Fail("option", d.words[0])
	}
	if n := len(d.words) - 1; n < f.least || f.most >= 0 && n > f.most {
		return core.WordsError(d.words)
	}
	return f.do(d)
}

func (d definer) holder() *holder {
	if d.object != nil {
		return &d.object.holder
	}
	return &d.class.holder
}

// classes returns the classes of the words, each once; none may come to the class that is defined.
func (d definer) classes() ([]*class, core.Result) {
	var l []*class
	for _, w := range d.words[1:] {
		c, r := classNamed(d.Machine, w)
		if !r.Good() {
			return nil, r
		}
		if !slices.Contains(l, c) {
			l = append(l, c)
		}
	}
	for _, c := range l {
		if d.class != nil && classes().reaches(c, d.class) {
			return nil, core.Fail("circle", nameOf(d.Machine, d.class.Number))
		}
	}
	return l, core.OK("")
}

func (d definer) superclass() core.Result {
	l, r := d.classes()
	if r.Good() {
		d.class.supers = l
	}
	return r
}

func (d definer) mixin() core.Result {
	l, r := d.classes()
	if r.Good() {
		d.holder().mixins = l
	}
	return r
}

func once(l []string) []string {
	var r []string
	for _, s := range l {
		if !slices.Contains(r, s) {
			r = append(r, s)
		}
	}
	return r
}

func (d definer) filter() core.Result {
	d.holder().filters = once(d.words[1:])
	return core.OK("")
}

func (d definer) field() core.Result {
	for _, name := range d.words[1:] {
		if !isField(name) {
			return core.Fail("name", name)
		}
	}
	d.class.fields = once(d.words[1:])
	return core.OK("")
}

func (d definer) method() core.Result {
	p, r := procs.Make(d.words[2], d.words[3])
	if r.Good() {
		d.holder().methods[d.words[1]] = &method{Procedure: p}
	}
	return r
}

func (d definer) forward() core.Result {
	d.holder().methods[d.words[1]] = &method{words: slices.Clone(d.words[2:])}
	return core.OK("")
}

func (d definer) deleteMethod() core.Result {
	if d.holder().methods[d.words[1]] == nil {
		return core.Fail("method", d.words[1])
	}
	delete(d.holder().methods, d.words[1])
	return core.OK("")
}

func (d definer) constructor() core.Result {
	p, r := procs.Make(d.words[1], d.words[2])
	if r.Good() {
		d.class.constructor = &method{Procedure: p}
	}
	return r
}

func (d definer) destructor() core.Result {
	p, _ := procs.Make("", d.words[1])
	d.class.destructor = &method{Procedure: p}
	return core.OK("")
}

func (d definer) changeClass() core.Result {
	c, r := classNamed(d.Machine, d.words[1])
	if r.Good() {
		d.object.class = c
	}
	return r
}
