package parse

import (
	"strings"

	"threadbare/api"
	"threadbare/text"
)

// stop is what ends all reading: an error at a byte; open, if something has no end.
type stop struct {
	at   int
	e    api.Errno
	open bool
}

// choice says what is replaced.
type choice struct{ slashes, vars, scripts bool }

// reader reads a text from a place on; inner, if a bracket ends the script that is being read.
type reader struct {
	s     string
	at    int
	deep  int
	inner bool
	choice
	words map[byte]func(r *reader) []api.Token
}

func newReader(s string) *reader {
	return &reader{s: s, choice: choice{true, true, true}, words: map[byte]func(r *reader) []api.Token{
		'{': (*reader).braced,
		'"': (*reader).quoted,
	}}
}

// reading does what reads, and tells how it stopped.
func reading(read func()) (how stop) {
	defer func() {
		switch x := recover().(type) {
		case nil:
		case stop:
			how = x
		default:
			panic(x)
		}
	}()
	read()
	return stop{}
}

func (r *reader) fail(at int) { panic(stop{at, api.ErrSyntax, true}) }

// deeper goes one level of nesting further in.
func (r *reader) deeper() {
	r.deep++
	if r.deep > api.MaxDeep {
		panic(stop{0, api.ErrLimit, false})
	}
}

func (r *reader) end() bool { return r.at >= len(r.s) }

// escapedLine reports whether an escaped line feed stands here.
func (r *reader) escapedLine() bool { return strings.HasPrefix(r.s[r.at:], "\\\n") }

// ends reports whether a word ends here.
func (r *reader) ends() bool {
	if r.end() {
		return true
	}
	c := r.s[r.at]
	return text.White(c) || c == ';' || r.inner && c == ']' || r.escapedLine()
}

// pass passes over blanks, and over line feeds and semicolons, if those are wanted.
func (r *reader) pass(separators bool) {
	for !r.end() {
		c := r.s[r.at]
		switch {
		case r.escapedLine():
			r.at += 2
		case c == '\n' || c == ';':
			if !separators {
				return
			}
			r.at++
		case text.White(c):
			r.at++
		default:
			return
		}
	}
}

func (r *reader) comment() {
	for !r.end() && r.s[r.at] != '\n' {
		if r.s[r.at] == '\\' {
			r.at++
		}
		r.at++
	}
	r.at = min(r.at, len(r.s))
}

// script reads commands up to the end, or to the bracket that ends them.
func (r *reader) script() []api.Command {
	var l []api.Command
	for {
		r.pass(true)
		switch {
		case r.end() || r.inner && r.s[r.at] == ']':
			return l
		case r.s[r.at] == '#':
			r.comment()
		default:
			l = append(l, r.command())
		}
	}
}

func (r *reader) command() api.Command {
	c := api.Command{At: r.at}
	for {
		c.Words = append(c.Words, r.word())
		r.pass(false)
		if r.ends() {
			return c
		}
	}
}

func (r *reader) word() api.Word {
	var w api.Word
	for strings.HasPrefix(r.s[r.at:], "{*}") {
		r.at += 3
		if r.ends() {
			r.at -= 3
			break
		}
		w.Spread = true
	}
	if read, ok := r.words[r.s[r.at]]; ok {
		w.Tokens = read(r)
		if !r.ends() {
			panic(stop{r.at, api.ErrSyntax, false})
		}
		return w
	}
	w.Tokens = r.parts(r.ends)
	return w
}

// closing returns the index of the brace that closes the one at an index; -1 if there is none.
func closing(s string, at int) int {
	open := 0
	for i := at; i < len(s); i++ {
		switch s[i] {
		case '\\':
			i++
		case '{':
			open++
		case '}':
			open--
			if open == 0 {
				return i
			}
		}
	}
	return -1
}

func (r *reader) braced() []api.Token {
	end := closing(r.s, r.at)
	if end < 0 {
		r.fail(r.at)
	}
	inner := r.s[r.at+1 : end]
	r.at = end + 1
	return []api.Token{{Kind: api.TText, Text: unfolded(inner)}}
}

// unfolded replaces each escaped line feed by a blank.
func unfolded(s string) string {
	if !strings.Contains(s, "\\\n") {
		return s
	}
	var b strings.Builder
	for i := 0; i < len(s); i++ {
		if s[i] != '\\' || i+1 == len(s) {
			b.WriteByte(s[i])
			continue
		}
		if s[i+1] == '\n' {
			_, n := text.Unescape(s[i:])
			b.WriteByte(' ')
			i += n - 1
			continue
		}
		b.WriteString(s[i : i+2])
		i++
	}
	return b.String()
}

func (r *reader) quoted() []api.Token {
	at := r.at
	r.at++
	l := r.parts(func() bool { return r.s[r.at] == '"' })
	if r.end() {
		r.fail(at)
	}
	r.at++
	return l
}

// tokens gathers tokens; texts that follow each other become one.
type tokens struct {
	list  []api.Token
	plain []byte
}

func (t *tokens) put(l ...api.Token) {
	for _, token := range l {
		if token.Kind == api.TText {
			t.plain = append(t.plain, token.Text...)
			continue
		}
		t.flush()
		t.list = append(t.list, token)
	}
}

func (t *tokens) flush() {
	if len(t.plain) > 0 {
		t.list = append(t.list, api.Token{Kind: api.TText, Text: string(t.plain)})
		t.plain = t.plain[:0]
	}
}

// parts reads parts up to a byte that ends them; without any, it is the empty text.
func (r *reader) parts(ends func() bool) []api.Token {
	var t tokens
	for !r.end() && !ends() {
		t.put(r.part())
	}
	t.flush()
	if len(t.list) == 0 {
		return []api.Token{{Kind: api.TText}}
	}
	return t.list
}

func (r *reader) part() api.Token {
	switch c := r.s[r.at]; {
	case c == '\\' && r.slashes:
		plain, n := text.Unescape(r.s[r.at:])
		r.at += n
		return api.Token{Kind: api.TText, Text: plain}
	case c == '$' && r.vars:
		if t, ok := r.variable(); ok {
			return t
		}
	case c == '[' && r.scripts:
		return r.bracket()
	}
	r.at++
	return api.Token{Kind: api.TText, Text: r.s[r.at-1 : r.at]}
}

// bracket reads a script in brackets, in which all is replaced again.
func (r *reader) bracket() api.Token {
	at, outer, chosen := r.at, r.inner, r.choice
	r.deeper()
	r.at++
	r.inner, r.choice = true, choice{true, true, true}
	r.script()
	if r.end() {
		r.fail(at)
	}
	t := api.Token{Kind: api.TScript, Text: r.s[at+1 : r.at]}
	r.at++
	r.deep--
	r.inner, r.choice = outer, chosen
	return t
}

func named(c byte) bool {
	return c >= '0' && c <= '9' || c >= 'A' && c <= 'Z' || c >= 'a' && c <= 'z' || c == '_'
}

// nameEnd returns where a variable's name ends that begins at an index.
func nameEnd(s string, at int) int {
	for at < len(s) {
		colons := at
		for colons < len(s) && s[colons] == ':' {
			colons++
		}
		switch {
		case colons-at > 1:
			at = colons
		case colons > at || !named(s[at]):
			return at
		default:
			at++
		}
	}
	return at
}

// variable reads a variable; false, and nothing is read, if none begins here.
func (r *reader) variable() (api.Token, bool) {
	from := r.at + 1
	if from < len(r.s) && r.s[from] == '{' {
		n := strings.IndexByte(r.s[from:], '}')
		if n < 0 {
			r.fail(r.at)
		}
		r.at = from + n + 1
		return api.Token{Kind: api.TVar, Text: r.s[from+1 : from+n]}, true
	}
	end := nameEnd(r.s, from)
	if end == from {
		return api.Token{}, false
	}
	t := api.Token{Kind: api.TVar, Text: r.s[from:end]}
	r.at = end
	if !r.end() && r.s[end] == '(' {
		r.deeper()
		r.at++
		t.HasIndex = true
		t.Index = r.parts(func() bool { return r.s[r.at] == ')' })
		if r.end() {
			r.fail(end)
		}
		r.at++
		r.deep--
	}
	return t, true
}
