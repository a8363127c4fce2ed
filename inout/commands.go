package inout

import (
	"slices"
	"strconv"

	"threadbare/api"
	"threadbare/core"
	"threadbare/pipe"
	"threadbare/strs"
	"threadbare/text"
)

func commands() map[string]core.Entry {
	return map[string]core.Entry{
		"puts":      {Least: 1, Most: 3, Do: doPuts},
		"gets":      {Least: 1, Most: 2, Do: reading(doGets)},
		"read":      {Least: 1, Most: 2, Do: reading(doRead)},
		"eof":       {Least: 1, Most: 1, Do: asked(func(c channel) core.Result { return core.Truth(c.reads() && c.eof()) })},
		"blocked":   {Least: 1, Most: 1, Do: asked(func(c channel) core.Result { return core.Truth(c.reads() && c.blocked()) })},
		"flush":     {Least: 1, Most: 1, Do: doFlush},
		"close":     {Least: 1, Most: 1, Do: doClose},
		"seek":      {Least: 2, Most: 2, Do: doSeek},
		"tell":      {Least: 1, Most: 1, Do: doTell},
		"open":      {Least: 1, Most: 2, Do: doOpen},
		"pair":      {Least: 0, Most: 0, Do: doPair},
		"channels":  {Least: 0, Most: 1, Do: doChannels},
		"configure": {Least: 1, Most: -1, Do: doConfigure},
		"lay":       {Least: 2, Most: 2, Do: doLay},
		"lift":      {Least: 1, Most: 1, Do: doLift},
		"copy":      {Least: 2, Most: 3, Do: doCopy},
		"cd":        {Least: 0, Most: 1, Do: doCd},
		"pwd": {Least: 0, Most: 0, Do: func(x *core.Machine, _ []string) core.Result {
			return core.OK(worldOf(x).folder)
		}},
		"files": {Least: 1, Most: 1, Do: doFiles},
		"file": {Least: 0, Most: -1, Do: func(x *core.Machine, words []string) core.Result {
			return core.Dispatch(words, fileSubs(), asker{core.NewAsker(x, words), worldOf(x).shelf})
		}},
	}
}

// find returns the channel of a name.
func find(x *core.Machine, name string) (channel, core.Result) {
	c, there := worldOf(x).channels[name]
	if !there {
		return nil, core.Fail("channel", name)
	}
	return c, core.OK("")
}

// asked is a command that asks a channel.
func asked(ask func(c channel) core.Result) core.Command {
	return func(x *core.Machine, words []string) core.Result {
		c, r := find(x, words[1])
		if !r.Good() {
			return r
		}
		return ask(c)
	}
}

// readable returns a channel that can be read.
func readable(x *core.Machine, name string) (channel, core.Result) {
	c, r := find(x, name)
	if r.Good() && !c.reads() {
		r = core.Fail("read", name)
	}
	return c, r
}

// writable returns a channel that can be written.
func writable(x *core.Machine, name string) (channel, core.Result) {
	c, r := find(x, name)
	if r.Good() && !c.writes() {
		r = core.Fail("write", name)
	}
	return c, r
}

// reading is a command that reads a channel.
func reading(do func(x *core.Machine, c channel, words []string) core.Result) core.Command {
	return func(x *core.Machine, words []string) core.Result {
		c, r := readable(x, words[1])
		if !r.Good() {
			return r
		}
		return do(x, c, words)
	}
}

// write writes a text to a channel.
func write(c channel, s string) core.Result {
	if c.side().Write(s) != api.OK {
		return fileLong()
	}
	return c.flow()
}

func doPuts(x *core.Machine, words []string) core.Result {
	name, end, rest := "stdout", "\n", words[1:]
	switch {
	case len(rest) > 1 && rest[0] == "-nonewline":
		end, rest = "", rest[1:]
	case len(rest) == 3:
		return core.WordsError(words)
	}
	if len(rest) == 2 {
		name, rest = rest[0], rest[1:]
	}
	c, r := writable(x, name)
	if !r.Good() {
		return r
	}
	return write(c, rest[0]+end)
}

func doGets(x *core.Machine, c channel, words []string) core.Result {
	s, ok, r := c.line()
	switch {
	case !r.Good():
		return r
	case len(s) > api.MaxText:
		return core.Error("long")
	case len(words) == 2:
		return core.OK(s)
	}
	if r := x.Write(words[2], s); !r.Good() {
		return r
	}
	if !ok {
		return core.OK("-1")
	}
	return core.OK(strconv.Itoa(len(s)))
}

// amount returns how many bytes a word asks for; all are MaxText at most.
func amount(words []string, at int) (int, core.Result) {
	if at >= len(words) {
		return api.MaxText, core.OK("")
	}
	n, r := strs.Number(words[at])
	if n < 0 || n > api.MaxText {
		n = api.MaxText
	}
	return n, r
}

func doRead(x *core.Machine, c channel, words []string) core.Result {
	n, r := amount(words, 2)
	if !r.Good() {
		return r
	}
	s, r := c.read(n)
	if !r.Good() {
		return r
	}
	return core.OK(s)
}

func doFlush(x *core.Machine, words []string) core.Result {
	c, r := writable(x, words[1])
	if !r.Good() {
		return r
	}
	return c.flush(words[1])
}

func doClose(x *core.Machine, words []string) core.Result {
	name := words[1]
	c, r := find(x, name)
	if !r.Good() {
		return r
	}
	if name == "stdin" || name == "stdout" || name == "stderr" {
		return core.Fail("channel", name)
	}
	w := worldOf(x)
	delete(w.channels, name)
	for _, told := range w.closed {
		told(name)
	}
	return c.close(name)
}

// placed returns the channel of a file, with all that is buffered flushed.
func placed(x *core.Machine, name string) (*opened, core.Result) {
	c, r := find(x, name)
	if !r.Good() {
		return nil, r
	}
	o, ok := c.(*opened)
	if !ok {
		return nil, core.Fail("seek", name)
	}
	return o, core.OK("")
}

func doSeek(x *core.Machine, words []string) core.Result {
	o, r := placed(x, words[1])
	if !r.Good() {
		return r
	}
	n, r := strs.Number(words[2])
	if !r.Good() {
		return r
	}
	if r := o.flush(words[1]); !r.Good() {
		return r
	}
	place, e := o.store.Seek(o.handle, n, "start")
	if e != api.OK {
		return core.Fail("range", words[2])
	}
	return core.OK(strconv.Itoa(place))
}

func doTell(x *core.Machine, words []string) core.Result {
	o, r := placed(x, words[1])
	if !r.Good() {
		return r
	}
	if r := o.flush(words[1]); !r.Good() {
		return r
	}
	place, _ := o.store.Tell(o.handle)
	return core.OK(strconv.Itoa(place))
}

func doOpen(x *core.Machine, words []string) core.Result {
	mode := "r"
	if len(words) == 3 {
		mode = words[2]
	}
	if !slices.Contains([]string{"r", "r+", "w", "w+", "a", "a+"}, mode) {
		return core.Fail("option", mode)
	}
	w := worldOf(x)
	path, r := w.path(words[1])
	if !r.Good() {
		return r
	}
	h, e := w.store.Open(path, mode)
	if e != api.OK {
		return fileError(e, words[1])
	}
	return core.OK(w.add("file", newOpened(w.store, h, mode)))
}

func doPair(x *core.Machine, words []string) core.Result {
	a, b := newStream("full", true, true, false), newStream("full", true, true, false)
	a.other, b.other = b, a
	w := worldOf(x)
	first := w.add("pipe", a)
	return core.Join([]string{first, w.add("pipe", b)})
}

func doChannels(x *core.Machine, words []string) core.Result {
	pattern := "*"
	if len(words) == 2 {
		pattern = words[1]
	}
	l := slices.DeleteFunc(core.Sorted(worldOf(x).channels), func(name string) bool {
		return !text.Glob(pattern, name, false)
	})
	return core.Join(l)
}

// option tells an option of a channel, and sets it.
type option struct {
	get func(p *pipe.Pipe) string
	set func(p *pipe.Pipe, value string) api.Errno
}

func optionNames() []string { return []string{"-buffering", "-buffersize", "-in", "-out"} }

func options() map[string]option {
	of := func(name string) option {
		return option{
			get: func(p *pipe.Pipe) string {
				s, _ := p.Get(name)
				return s
			},
			set: func(p *pipe.Pipe, value string) api.Errno { return p.Set(name, value) },
		}
	}
	return map[string]option{"-buffering": of("buffering"), "-buffersize": of("size"), "-in": of("in"), "-out": of("out")}
}

func doConfigure(x *core.Machine, words []string) core.Result {
	rest := words[2:]
	if len(rest) > 1 && len(rest)%2 == 1 {
		return core.WordsError(words)
	}
	c, r := find(x, words[1])
	if !r.Good() {
		return r
	}
	known := options()
	if len(rest) == 0 {
		var l []string
		for _, name := range optionNames() {
			l = append(l, name, known[name].get(c.side()))
		}
		return core.Join(l)
	}
	for i := 0; i < len(rest); i += 2 {
		o, ok := known[rest[i]]
		if !ok {
			return core.Fail("option", rest[i])
		}
		if len(rest) == 1 {
			return core.OK(o.get(c.side()))
		}
		if o.set(c.side(), rest[i+1]) != api.OK {
			return core.Fail("value", rest[i+1])
		}
	}
	return core.OK("")
}

func doLay(x *core.Machine, words []string) core.Result {
	c, r := find(x, words[1])
	if !r.Good() {
		return r
	}
	if s, ok := c.(*stream); !ok || s.pipe.Lay(words[2]) != api.OK {
		return core.Fail("filter", words[2])
	}
	return core.OK("")
}

func doLift(x *core.Machine, words []string) core.Result {
	c, r := find(x, words[1])
	if !r.Good() {
		return r
	}
	if s, ok := c.(*stream); !ok || s.pipe.Lift() != api.OK {
		return core.Fail("filter", words[1])
	}
	return core.OK("")
}

func doCopy(x *core.Machine, words []string) core.Result {
	from, r := readable(x, words[1])
	if !r.Good() {
		return r
	}
	to, r := find(x, words[2])
	switch {
	case !r.Good():
		return r
	case words[1] == words[2]:
		return core.Fail("channel", words[2])
	case !to.writes():
		return core.Fail("write", words[2])
	}
	n, r := amount(words, 3)
	if !r.Good() {
		return r
	}
	back := held(from)
	s, r := from.read(n)
	if r.Good() {
		r = write(to, s)
	}
	if !r.Good() {
		back()
		return r
	}
	return core.OK(strconv.Itoa(len(s)))
}

// held returns what lays back what is read from a channel meanwhile, so that nothing is lost that cannot be written.
func held(c channel) func() {
	if o, ok := c.(*opened); ok {
		place, _ := o.store.Tell(o.handle)
		return func() { o.store.Seek(o.handle, place, "start") }
	}
	before := *c.side()
	return func() { *c.side() = before }
}
