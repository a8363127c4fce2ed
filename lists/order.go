package lists

import (
	"slices"
	"strconv"
	"strings"

	"threadbare/api"
	"threadbare/basic"
	"threadbare/big"
	"threadbare/core"
	"threadbare/list"
	"threadbare/text"
)

// numbers asks whether elements are numbers, one after the other.
func numbers(l []string) core.Result {
	for _, s := range l {
		if _, e := big.Canonical(s); e != api.OK {
			return core.NumberError(e, s)
		}
	}
	return core.OK("")
}

func summed(l []string) core.Result {
	if r := numbers(l); !r.Good() {
		return r
	}
	sum, e := "0", api.OK
	for _, s := range l {
		if sum, e = big.Add(sum, s); e != api.OK {
			return core.Error("long")
		}
	}
	return core.OK(sum)
}

// extreme tells the first of the least (-1) or greatest (1) numbers.
func extreme(way int) func(l []string) core.Result {
	return func(l []string) core.Result {
		if len(l) == 0 {
			return core.Fail("range", "")
		}
		if r := numbers(l); !r.Good() {
			return r
		}
		best := l[0]
		for _, s := range l {
			if c, _ := big.Compare(s, best); c == way {
				best = s
			}
		}
		return core.OK(best)
	}
}

func doLfold(x *core.Machine, words []string) core.Result {
	sum, each, body := words[1], words[2], words[5]
	l, r := x.List(words[4])
	if !r.Good() {
		return r
	}
	if r := x.Write(sum, words[3]); !r.Good() {
		return r
	}
	for _, s := range l {
		if r := x.Step(); !r.Good() {
			return r
		}
		if r := x.Write(each, s); !r.Good() {
			return r
		}
		r := x.Script(body)
		if ends, out := basic.Ended(r); ends {
			if !out.Good() {
				return out
			}
			break
		}
		if r.Good() {
			if r := x.Write(sum, r.Text); !r.Good() {
				return r
			}
		}
	}
	return x.Read(sum)
}

// option does what an option says, with the words behind it, and tells how many of those it takes; -1 if one lacks.
type option func(behind []string) (int, core.Result)

// set is an option that sets something.
func set[T any](to *T, value T) option {
	return func([]string) (int, core.Result) {
		*to = value
		return 0, core.OK("")
	}
}

// readOptions reads the options before the last words, and returns those.
func readOptions(words []string, last int, known map[string]option) ([]string, core.Result) {
	rest := words[1:]
	for len(rest) > last && strings.HasPrefix(rest[0], "-") {
		do, ok := known[rest[0]]
		if !ok {
			return nil, core.Fail("option", rest[0])
		}
		n, r := do(rest[1 : len(rest)-last])
		switch {
		case n < 0:
			return nil, core.WordsError(words)
		case !r.Good():
			return nil, r
		}
		rest = rest[1+n:]
	}
	if len(rest) != last {
		return nil, core.WordsError(words)
	}
	return rest, core.OK("")
}

// sorting is how a list is sorted.
type sorting struct {
	kind         int // 3 for a command
	down, unique bool
	command      string
}

func (s *sorting) options() map[string]option {
	return map[string]option{
		"-ascii":      set(&s.kind, 0),
		"-integer":    set(&s.kind, 1),
		"-nocase":     set(&s.kind, 2),
		"-decreasing": set(&s.down, true),
		"-increasing": set(&s.down, false),
		"-unique":     set(&s.unique, true),
		"-command": func(behind []string) (int, core.Result) {
			if len(behind) == 0 {
				return -1, core.OK("")
			}
			s.kind, s.command = 3, behind[0]
			return 1, core.OK("")
		},
	}
}

func doLsort(x *core.Machine, words []string) core.Result {
	var s sorting
	rest, r := readOptions(words, 1, s.options())
	if !r.Good() {
		return r
	}
	var prefix []string
	if s.kind == 3 {
		if prefix, r = x.List(s.command); !r.Good() {
			return r
		}
	}
	l, r := x.List(rest[0])
	switch {
	case !r.Good():
		return r
	case s.kind == 3:
		return s.merged(x, prefix, l)
	}
	sorted, e := list.Sort(rest[0], s.kind, s.down, s.unique)
	if e == api.ErrKind {
		for _, one := range l {
			if _, e := list.Sort(list.Quote(one), 1, false, false); e == api.ErrKind {
				return core.Fail("number", one)
			}
		}
	}
	return core.Long(sorted, e)
}

// merged sorts by merging; what compares may fail.
func (s *sorting) merged(x *core.Machine, prefix, l []string) core.Result {
	compare := func(a, b string) (int, core.Result) {
		script, e := list.Join(append(slices.Clone(prefix), a, b))
		if e != api.OK {
			return 0, core.Error("long")
		}
		r := x.Script(script)
		if !r.Good() {
			return 0, r
		}
		c, e := big.Sign(r.Text)
		if s.down {
			c = -c
		}
		return c, core.NumberError(e, r.Text)
	}
	var sort func(l []string) ([]string, core.Result)
	sort = func(l []string) ([]string, core.Result) {
		if len(l) < 2 {
			return l, core.OK("")
		}
		a, r := sort(l[:len(l)/2])
		if !r.Good() {
			return nil, r
		}
		b, r := sort(l[len(l)/2:])
		var both []string
		for r.Good() && len(a) > 0 && len(b) > 0 {
			var c int
			if c, r = compare(a[0], b[0]); c > 0 {
				both, b = append(both, b[0]), b[1:]
			} else {
				both, a = append(both, a[0]), a[1:]
			}
		}
		return append(append(both, a...), b...), r
	}
	l, r := sort(l)
	if !r.Good() {
		return r
	}
	if s.unique {
		if l, r = lastOfEqual(l, compare); !r.Good() {
			return r
		}
	}
	return core.Join(l)
}

func lastOfEqual(l []string, compare func(a, b string) (int, core.Result)) ([]string, core.Result) {
	var kept []string
	for i, s := range l {
		c := 1
		if i+1 < len(l) {
			var r core.Result
			if c, r = compare(s, l[i+1]); !r.Good() {
				return nil, r
			}
		}
		if c != 0 {
			kept = append(kept, s)
		}
	}
	return kept, core.OK("")
}

// searching is what is looked for in a list, and what is told.
type searching struct {
	kind             int
	all, inline, not bool
	start            string
}

func (s *searching) options() map[string]option {
	return map[string]option{
		"-exact":  set(&s.kind, 0),
		"-glob":   set(&s.kind, 1),
		"-nocase": set(&s.kind, 2),
		"-all":    set(&s.all, true),
		"-inline": set(&s.inline, true),
		"-not":    set(&s.not, true),
		"-start": func(behind []string) (int, core.Result) {
			if len(behind) == 0 {
				return -1, core.OK("")
			}
			s.start = behind[0]
			_, r := place(s.start, 0)
			return 1, r
		},
	}
}

func (s *searching) fits(pattern, one string) bool {
	fits := one == pattern
	if s.kind > 0 {
		fits = text.Glob(pattern, one, s.kind == 2)
	}
	return fits != s.not
}

func doLsearch(x *core.Machine, words []string) core.Result {
	s := searching{kind: 1, start: "0"}
	rest, r := readOptions(words, 2, s.options())
	if !r.Good() {
		return r
	}
	l, r := x.List(rest[0])
	if !r.Good() {
		return r
	}
	from, _ := place(s.start, len(l))
	var told []string
	for i := max(from, 0); i < len(l); i++ {
		if !s.fits(rest[1], l[i]) {
			continue
		}
		one := strconv.Itoa(i)
		if s.inline {
			one = l[i]
		}
		if !s.all {
			return core.OK(one)
		}
		told = append(told, one)
	}
	if !s.all && !s.inline {
		return core.OK("-1")
	}
	return core.Join(told)
}
