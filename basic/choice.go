package basic

import (
	"strings"

	"threadbare/api"
	"threadbare/core"
	"threadbare/text"
)

// handler is what is done with an outcome of a code.
type handler struct {
	code       int
	word       string // the code as it was written
	name, body string
}

// attempt is the words of a try.
type attempt struct {
	body     string
	handlers []handler
	last     *string // what stands behind finally
}

// readTry reads the words of a try; false for another order of words.
func readTry(words []string) (a attempt, ok bool) {
	a.body = words[1]
	rest := words[2:]
	for len(rest) >= 4 && rest[0] == "on" {
		a.handlers = append(a.handlers, handler{word: rest[1], name: rest[2], body: rest[3]})
		rest = rest[4:]
	}
	if len(rest) == 2 && rest[0] == "finally" {
		a.last = &rest[1]
		rest = nil
	}
	return a, len(rest) == 0
}

func doTry(x *core.Machine, words []string) core.Result {
	a, ok := readTry(words)
	if !ok {
		return core.WordsError(words)
	}
	for i := range a.handlers {
		h := &a.handlers[i]
		if h.code, ok = core.ReadCode(h.word); !ok {
			return core.Fail("option", h.word)
		}
	}
	r := core.Caught(x.Script(a.body))
	for _, h := range a.handlers {
		if h.code == r.Code {
			r = core.Caught(h.handle(x, r))
			break
		}
	}
	if a.last == nil || r.Code == api.CStop {
		return r
	}
	if last := core.Caught(x.Script(*a.last)); !last.Good() {
		return last
	}
	return r
}

func (h handler) handle(x *core.Machine, r core.Result) core.Result {
	if h.name != "-" {
		if r := x.Write(h.name, r.Text); !r.Good() {
			return r
		}
	}
	return x.Script(h.body)
}

// chooser is how the patterns of a switch are held against its text.
type chooser struct{ glob, fold bool }

// options reads the options of a switch, and returns the words behind them.
func (c *chooser) options(words []string) ([]string, core.Result) {
reading:
	for len(words) > 1 && strings.HasPrefix(words[0], "-") {
		w := words[0]
		words = words[1:]
		switch w {
		case "-exact":
			c.glob = false
		case "-glob":
			c.glob = true
		case "-nocase":
			c.fold = true
		case "--":
			break reading
		default:
			return nil, core.Fail("option", w)
		}
	}
	return words, core.OK("")
}

func (c *chooser) fits(pattern, s string) bool {
	switch {
	case c.glob:
		return text.Glob(pattern, s, c.fold)
	case c.fold:
		return text.Lower(pattern) == text.Lower(s)
	}
	return pattern == s
}

func doSwitch(x *core.Machine, words []string) core.Result {
	var c chooser
	rest, r := c.options(words[1:])
	if !r.Good() {
		return r
	}
	if len(rest) != 2 {
		return core.WordsError(words)
	}
	cases, r := x.List(rest[1])
	if !r.Good() {
		return r
	}
	if len(cases) == 0 || len(cases)%2 != 0 {
		return core.WordsError(words)
	}
	for i := 0; i < len(cases); i += 2 {
		last := i == len(cases)-2 && cases[i] == "default"
		if !last && !c.fits(cases[i], rest[0]) {
			continue
		}
		for ; i < len(cases); i += 2 {
			if cases[i+1] != "-" {
				return x.Script(cases[i+1])
			}
		}
		return core.Fail("option", "-")
	}
	return core.OK("")
}
