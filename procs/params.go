package procs

import (
	"iter"
	"strings"

	"threadbare/api"
	"threadbare/list"
)

// param is a parameter; e is the error of one that is wrong.
type param struct {
	name, value string
	has         bool
	e           api.Errno
}

func readParam(s string) param {
	l, _, e := list.Split(s)
	switch {
	case e == api.ErrSyntax:
		return param{e: e}
	case e != api.OK || len(l) < 1 || len(l) > 2 || l[0] == "" || strings.Contains(l[0], "(") || strings.Contains(l[0], "::"):
		return param{e: api.ErrName}
	case len(l) == 2:
		return param{name: l[0], value: l[1], has: true}
	}
	return param{name: l[0]}
}

// params gives parameters with their texts.
func params(l []string) iter.Seq2[string, param] {
	return func(yield func(string, param) bool) {
		seen := map[string]bool{}
		for _, s := range l {
			p := readParam(s)
			if p.e == api.OK && seen[p.name] {
				p.e = api.ErrName
			}
			seen[p.name] = true
			if !yield(s, p) {
				return
			}
		}
	}
}

// Procedure is parameters and a body.
type Procedure struct {
	Params, Body string
	list         []param
	rest         bool
}

// Read reads parameters; wrong is the text with the error.
func Read(s string) (p *Procedure, wrong string, e api.Errno) {
	l, _, e := list.Split(s)
	if e != api.OK {
		return nil, s, e
	}
	p = &Procedure{Params: s}
	for text, one := range params(l) {
		if one.e != api.OK {
			return nil, text, one.e
		}
		p.list = append(p.list, one)
	}
	if n := len(p.list); n > 0 && p.list[n-1].name == "args" && !p.list[n-1].has {
		p.rest = true
	}
	return p, "", api.OK
}

// Params reads parameters.
func Params(s string) (names []string, defaults []string, has []bool, rest bool, e api.Errno) {
	p, _, e := Read(s)
	if e != api.OK {
		return nil, nil, nil, false, e
	}
	for _, one := range p.list {
		names, defaults, has = append(names, one.name), append(defaults, one.value), append(has, one.has)
	}
	return names, defaults, has, p.rest, api.OK
}

// bind returns what the parameters get of words, in order.
func (p *Procedure) bind(words []string) ([]string, api.Errno) {
	var values []string
	for i, one := range p.list {
		switch {
		case p.rest && i == len(p.list)-1:
			s, e := list.Join(words)
			if e != api.OK {
				return nil, api.ErrLong
			}
			values, words = append(values, s), nil
		case len(words) > 0:
			values, words = append(values, words[0]), words[1:]
		case one.has:
			values = append(values, one.value)
		default:
			return nil, api.ErrNone
		}
	}
	if len(words) > 0 {
		return nil, api.ErrLimit
	}
	return values, api.OK
}

// Bind returns what the parameters get of words.
func Bind(params string, words []string) ([]string, api.Errno) {
	p, _, e := Read(params)
	if e != api.OK {
		return nil, e
	}
	return p.bind(words)
}

// isLevel reports whether a word tells a level.
func isLevel(word string) bool {
	digits := strings.TrimPrefix(word, "#")
	if len(digits) < 1 || len(digits) > 9 {
		return false
	}
	return strings.Trim(digits, "0123456789") == ""
}

// Level returns the level that a word tells.
func Level(word string, now int) (int, api.Errno) {
	if !isLevel(word) {
		return 0, api.ErrSyntax
	}
	n := 0
	for _, c := range []byte(strings.TrimPrefix(word, "#")) {
		n = n*10 + int(c-'0')
	}
	if word[0] != '#' {
		n = now - n
	}
	if now < 0 || n < 0 || n > now {
		return 0, api.ErrRange
	}
	return n, api.OK
}
