package regex

import (
	"strings"

	"threadbare/api"
)

// wrong is what stops the reading of a pattern.
type wrong struct{ at int }

// reader reads a pattern from a place on.
type reader struct {
	s      string
	at     int
	groups int
	deep   int
	most   int // the greatest depth
	looks  int // looks ahead around the place
	far    bool
}

// pattern is a pattern that was read; far, if it has a back reference or a look ahead.
type pattern struct {
	root   node
	groups int
	far    bool
}

const (
	maxGroups = 20
	maxSize   = 5000
	maxFar    = 200
)

// read reads a pattern; at is where it is wrong.
func read(s string) (p pattern, at int, e api.Errno) {
	defer func() {
		switch x := recover().(type) {
		case nil:
		case wrong:
			p, at, e = pattern{}, x.at, api.ErrSyntax
		default:
			panic(x)
		}
	}()
	r := reader{s: s}
	root := r.branches()
	if r.at < len(s) {
		r.fail(r.at)
	}
	if r.groups > maxGroups || r.most > api.MaxDeep || root.size() > maxSize {
		return pattern{}, 0, api.ErrLimit
	}
	return pattern{root, r.groups, r.far}, 0, api.OK
}

func (r *reader) fail(at int) { panic(wrong{at}) }

func (r *reader) end() bool { return r.at >= len(r.s) }

// next reports whether a byte stands here, and passes over it.
func (r *reader) next(c byte) bool {
	if r.end() || r.s[r.at] != c {
		return false
	}
	r.at++
	return true
}

func (r *reader) branches() node {
	list := []node{r.pieces()}
	for r.next('|') {
		list = append(list, r.pieces())
	}
	return branches{list}
}

func (r *reader) pieces() node {
	var list []node
	for !r.end() && r.s[r.at] != '|' && r.s[r.at] != ')' {
		list = append(list, r.piece())
	}
	return pieces{list}
}

func (r *reader) piece() node {
	atom := r.atom()
	from, most, ok := r.times()
	if !ok {
		return atom
	}
	return repeat{in: atom, from: from, most: most, lazy: r.next('?')}
}

func (r *reader) repeatable(n node) bool {
	switch n.(type) {
	case place, look:
		return false
	}
	return true
}

// times reads a repetition without its last '?'.
func (r *reader) times() (from, most int, ok bool) {
	if r.end() {
		return 0, 0, false
	}
	switch r.s[r.at] {
	case '*':
		from, most = 0, -1
	case '+':
		from, most = 1, -1
	case '?':
		from, most = 0, 1
	case '{':
		return r.counted()
	default:
		return 0, 0, false
	}
	r.at++
	return from, most, true
}

// count reads a number of one or two digits.
func (r *reader) count() (int, bool) {
	n, from := 0, r.at
	for !r.end() && r.at < from+2 && r.s[r.at] >= '0' && r.s[r.at] <= '9' {
		n = n*10 + int(r.s[r.at]-'0')
		r.at++
	}
	return n, r.at > from && n <= 50
}

func (r *reader) counted() (from, most int, ok bool) {
	at := r.at
	r.at++
	from, ok = r.count()
	most = from
	if ok && r.next(',') {
		most = -1
		if !r.end() && r.s[r.at] != '}' {
			most, ok = r.count()
			ok = ok && from <= most
		}
	}
	if !ok || !r.next('}') {
		r.fail(at)
	}
	return from, most, true
}

func (r *reader) atom() node {
	at := r.at
	c := r.s[at]
	r.at++
	var n node
	switch c {
	case '*', '+', '?', '{':
		r.fail(at)
	case '.':
		n = set{bytes: new([256]bool), negated: true}
	case '^', '$':
		n = place{c}
	case '[':
		n = r.set()
	case '(':
		n = r.group()
	case '\\':
		n = r.escape()
	default:
		n = single(c)
	}
	if !r.end() && strings.IndexByte("*+?{", r.s[r.at]) >= 0 && !r.repeatable(n) {
		r.fail(r.at)
	}
	return n
}

func (r *reader) group() node {
	at := r.at - 1
	kind := byte('(')
	if r.next('?') {
		if r.end() || strings.IndexByte(":=!", r.s[r.at]) < 0 {
			r.fail(r.at - 1)
		}
		kind = r.s[r.at]
		r.at++
	}
	number := 0
	switch kind {
	case '(':
		if r.looks > 0 {
			r.fail(at)
		}
		r.groups++
		number = r.groups
	case '=', '!':
		r.far = true
		r.looks++
	}
	r.deep++
	r.most = max(r.most, r.deep)
	in := r.branches()
	r.deep--
	if !r.next(')') {
		r.fail(len(r.s))
	}
	if kind == '=' || kind == '!' {
		r.looks--
		return look{kind == '!', in}
	}
	return group{number, in}
}

func (r *reader) escape() node {
	at := r.at - 1
	if r.end() {
		r.fail(len(r.s))
	}
	c := r.s[r.at]
	r.at++
	switch {
	case c == 'd' || c == 's' || c == 'w':
		return set{bytes: classBytes(c)}
	case c == 'D' || c == 'S' || c == 'W':
		return set{bytes: classBytes(c + 32), negated: true}
	case c == 'y':
		return place{'y'}
	case c >= '1' && c <= '9':
		if int(c-'0') > r.groups || r.looks > 0 {
			r.fail(at)
		}
		r.far = true
		return back{int(c - '0')}
	}
	b, ok := plainEscape(c)
	if !ok {
		r.fail(at)
	}
	return single(b)
}

// plainEscape returns the byte that a backslash and a byte are.
func plainEscape(c byte) (byte, bool) {
	switch c {
	case 'n':
		return '\n', true
	case 't':
		return '\t', true
	case 'r':
		return '\r', true
	}
	return c, !alnum(c)
}

// set reads what stands behind a '['.
func (r *reader) set() node {
	n := set{bytes: new([256]bool)}
	n.negated = r.next('^')
	for first := true; first || !r.next(']'); first = false {
		r.item(n.bytes, first)
	}
	return n
}

// item reads an item of a set: a byte, a range or a class.
func (r *reader) item(bytes *[256]bool, first bool) {
	at := r.at
	if r.end() {
		r.fail(len(r.s))
	}
	low, class := r.member()
	dash := !r.end() && r.s[r.at] == '-'
	if dash && r.at+1 == len(r.s) {
		if r.s[at] == '-' && !first {
			r.fail(at)
		}
		r.fail(r.at)
	}
	ranged := dash && r.s[r.at+1] != ']'
	if r.s[at] == '-' && !first && !ranged && (r.end() || r.s[r.at] != ']') {
		r.fail(at)
	}
	if !ranged {
		if class != nil {
			for c, in := range class {
				bytes[c] = bytes[c] || in
			}
			return
		}
		bytes[low] = true
		return
	}
	if class != nil {
		r.fail(at)
	}
	r.at++
	end := r.at
	high, class := r.member()
	if class != nil {
		r.fail(end)
	}
	if high < low {
		r.fail(at)
	}
	for c := int(low); c <= int(high); c++ {
		bytes[c] = true
	}
}

// member reads a byte of a set, or a class.
func (r *reader) member() (byte, *[256]bool) {
	at := r.at
	c := r.s[at]
	r.at++
	if c != '\\' {
		return c, nil
	}
	if r.end() {
		r.fail(len(r.s))
	}
	c = r.s[r.at]
	r.at++
	if c == 'd' || c == 's' || c == 'w' {
		return 0, classBytes(c)
	}
	b, ok := plainEscape(c)
	if !ok {
		r.fail(at)
	}
	return b, nil
}
