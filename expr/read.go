package expr

import (
	"strings"

	"threadbare/api"
	"threadbare/big"
	"threadbare/parse"
	"threadbare/text"
)

// stop is what ends all reading.
type stop struct {
	at int
	e  api.Errno
}

// reader reads an expression from a place on.
type reader struct {
	s         string
	at        int
	operators map[string]operator
}

// Parse reads an expression.
func Parse(s string) (n api.Node, at int, e api.Errno) {
	defer func() {
		switch x := recover().(type) {
		case nil:
		case stop:
			n, at, e = api.Node{}, x.at, x.e
		default:
			panic(x)
		}
	}()
	r := &reader{s: s, operators: operators()}
	n = r.choice()
	if r.at < len(s) {
		r.fail(r.at)
	}
	if Depth(n) > api.MaxDeep {
		return api.Node{}, 0, api.ErrLimit
	}
	return n, 0, api.OK
}

func (r *reader) fail(at int) { panic(stop{at, api.ErrSyntax}) }

func (r *reader) pass() {
	for r.at < len(r.s) && text.White(r.s[r.at]) {
		r.at++
	}
}

// next passes over a byte, if it stands here behind white ones.
func (r *reader) next(c byte) bool {
	r.pass()
	if r.at < len(r.s) && r.s[r.at] == c {
		r.at++
		return true
	}
	return false
}

func (r *reader) need(c byte) {
	if !r.next(c) {
		r.fail(r.at)
	}
}

func (r *reader) choice() api.Node {
	n := r.operation(1)
	if !r.next('?') {
		return n
	}
	yes := r.choice()
	r.need(':')
	no := r.choice()
	return api.Node{Kind: api.NOp, Text: "?", Args: []api.Node{n, yes, no}}
}

func nameByte(c byte) bool {
	return c >= '0' && c <= '9' || c >= 'a' && c <= 'z' || c >= 'A' && c <= 'Z' || c == '_'
}

func digit(c byte) bool { return c >= '0' && c <= '9' }

// name returns the name that stands here.
func (r *reader) name() string {
	end := r.at
	for end < len(r.s) && nameByte(r.s[end]) {
		end++
	}
	return r.s[r.at:end]
}

// operator returns the operator of two operands that stands here.
func (r *reader) operator() (operator, string) {
	r.pass()
	rest := r.s[r.at:]
	name := r.name()
	if name == "" {
		name = rest[:min(2, len(rest))]
		if _, ok := r.operators[name]; !ok && name != "" {
			name = rest[:1]
		}
	}
	return r.operators[name], name
}

// operation reads operands and operators of at least a level.
func (r *reader) operation(least int) api.Node {
	left := r.signed()
	for {
		op, name := r.operator()
		if op.level < least {
			return left
		}
		r.at += len(name)
		// What binds from the right takes what binds as much behind it.
		behind := op.level + 1
		if op.right {
			behind = op.level
		}
		right := r.operation(behind)
		left = api.Node{Kind: api.NOp, Text: name, Args: []api.Node{left, right}}
	}
}

func (r *reader) signed() api.Node {
	r.pass()
	if r.at < len(r.s) && strings.IndexByte("-+~!", r.s[r.at]) >= 0 {
		op := r.s[r.at : r.at+1]
		r.at++
		return api.Node{Kind: api.NOp, Text: op, Args: []api.Node{r.signed()}}
	}
	return r.operand()
}

func constant(s string) api.Node {
	return api.Node{Kind: api.NWord, Text: s, Word: api.Word{Tokens: []api.Token{{Kind: api.TText, Text: s}}}}
}

func (r *reader) operand() api.Node {
	if r.next('(') {
		n := r.choice()
		r.need(')')
		return n
	}
	at := r.at
	if at == len(r.s) {
		r.fail(at)
	}
	name := r.name()
	switch {
	case name == "":
		return r.word()
	case digit(name[0]):
		return r.number()
	}
	r.at += len(name)
	if r.next('(') {
		return r.call(name)
	}
	if !isTruthWord(name) {
		r.fail(at)
	}
	r.at = at + len(name)
	return constant(name)
}

func isTruthWord(s string) bool {
	switch s {
	case "true", "false", "yes", "no", "on", "off":
		return true
	}
	return false
}

func (r *reader) number() api.Node {
	at := r.at
	for r.at < len(r.s) && nameByte(r.s[r.at]) && r.s[r.at] != '_' {
		r.at++
	}
	if !big.Valid(r.s[at:r.at]) {
		r.fail(at)
	}
	return constant(r.s[at:r.at])
}

func (r *reader) call(name string) api.Node {
	n := api.Node{Kind: api.NCall, Text: name}
	for {
		n.Args = append(n.Args, r.choice())
		if !r.next(',') {
			break
		}
	}
	r.need(')')
	return n
}

func (r *reader) word() api.Node {
	at := r.at
	w, end, e := parse.Operand(r.s, at)
	if e == api.ErrLimit {
		panic(stop{0, e})
	}
	if e != api.OK {
		r.fail(at)
	}
	r.at = end
	return api.Node{Kind: api.NWord, Text: r.s[at:end], Word: w}
}
