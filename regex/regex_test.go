package regex

import (
	"math/rand"
	"slices"
	"strings"
	"testing"

	"threadbare/api"
	"threadbare/text"
)

// 7.1
func TestCheck(t *testing.T) {
	for s, at := range map[string]int{
		"*a": 0, "a**": 2, "a*??": 3, "a|+": 2, "(?": 1, "(?x)": 1, "(a": 2, "a)": 1, "x{,3}": 1, "x{2": 1, "x{51}": 1, "x{3,2}": 1, "x{123}": 1, "{2}": 0, "|{2}": 1, "a{2}{3}": 4, "^*": 1, "$+": 1, "(?=a)*": 5, "(?!a){2}": 5, "\\y?": 2,
		"\\": 1, "\\q": 0, "\\0": 0, "a\\1": 1, "\\1(a)": 0, "(a)\\2": 3, "(?=(a))": 3, "(a)(?=\\1)": 6, "[": 1, "[]": 2, "[^": 2, "[^]": 3, "[a": 2, "[b-a]": 1, "[x\\q]": 2, "[\\D]": 1, "[\\": 2, "[a-\\d]": 3, "[\\d-z]": 1, "[a-b-c]": 4, "[a-": 2, "[a-b-": 4, "[--": 2, "[a-\\": 4, "[\\d-": 3, "[ab-": 3, "[z\\b-a]": 2,
		strings.Repeat("(a)", 21) + "*)": 64, strings.Repeat("(", 101): 101,
	} {
		if got, e := Check(s); got != at || e != api.ErrSyntax {
			t.Errorf("Check(%.20q) = %d, %d, not %d", s, got, e, at)
		}
		if Valid(s) {
			t.Errorf("Valid(%.20q)", s)
		}
	}
	for _, s := range []string{strings.Repeat("(a)", 21), strings.Repeat("(?:", 101) + strings.Repeat(")", 101), "((a{50}){50}){3}", "((((((((a{50}){50}){50}){50}){50}){50}){50}){50}){50}"} {
		if at, e := Check(s); at != 0 || e != api.ErrLimit || Valid(s) {
			t.Errorf("Check(%.20q) = %d, %d", s, at, e)
		}
		for _, f := range []func(string) (int, api.Errno){Groups, Size, Least} {
			if n, e := f(s); n != 0 || e != api.ErrLimit {
				t.Error("of what is too great")
			}
		}
	}
	for s, want := range map[string][3]int{ // groups, size, least
		"": {0, 1, 0}, "a": {0, 2, 1}, "(a)": {1, 4, 1}, "a|bc": {0, 5, 1}, "a*": {0, 2, 0}, "a+": {0, 3, 1}, "a{3}": {0, 4, 3}, "a{2,}": {0, 4, 2}, "a{2,5}?": {0, 6, 2}, "a{0}": {0, 2, 0}, "(?:ab|c){2}": {0, 13, 2}, "^\\y$": {0, 4, 0}, "(a)\\1": {1, 5, 1}, "(?=ab)(?!c)x": {0, 9, 1}, "[]a-]": {0, 2, 1}, "]}": {0, 3, 2}, "[\\-a-z\\]]": {0, 2, 1},
		"[--a]": {0, 2, 1}, "[+--]": {0, 2, 1}, "[a-b--c]": {0, 2, 1}, "[\\d-]": {0, 2, 1}, "[^^]": {0, 2, 1}, "(?:)": {0, 3, 0}, strings.Repeat("(?:", 100) + strings.Repeat(")", 100): {0, 201, 0}, "((a)|b){2}": {2, 15, 2},
	} {
		at, e := Check(s)
		groups, e1 := Groups(s)
		size, e2 := Size(s)
		least, e3 := Least(s)
		if at != 0 || e != 0 || e1 != 0 || e2 != 0 || e3 != 0 || [3]int{groups, size, least} != want || !Valid(s) {
			t.Errorf("%.20q: %d groups, size %d, least %d (%d)", s, groups, size, least, e)
		}
	}
}

// 7.2
func TestLiteral(t *testing.T) {
	all := ""
	for c := range 256 {
		all += string([]byte{byte(c)})
	}
	if s, ok := Literal(Escape(all)); !ok || s != all || !Valid(Escape(all)) {
		t.Error("Literal of Escape")
	}
	if Escape("a.b]") != "a\\.b]" {
		t.Error("Escape")
	}
	if ok, e := Match(Escape(all), all, false, false); !ok || e != 0 {
		t.Error("Match of Escape")
	}
	for _, s := range []string{"a*", "a|b", ".", "\\d", "\\", "\\1", "[a]", "(a)", "^", "a{2}"} {
		if got, ok := Literal(s); ok || got != "" {
			t.Errorf("Literal(%q)", s)
		}
	}
	if s, ok := Literal(""); s != "" || !ok {
		t.Error("Literal of nothing")
	}
}

// slow is the document's telling of ways, word by word.
type slow struct {
	s           string
	fold, lines bool
	tries       int
}

type tuple = []api.Span

func spans(l ...int) tuple {
	var r tuple
	for i := 0; i < len(l); i += 2 {
		r = append(r, api.Span{From: l[i], To: l[i+1]})
	}
	return r
}

func (w *slow) ways(n node, at int, g tuple, on func(at int, g tuple) bool) bool {
	w.tries++
	if w.tries > 300000 {
		return false
	}
	switch n := n.(type) {
	case set:
		p := &program{fold: w.fold, lines: w.lines}
		return at < len(w.s) && p.bytesOf(n)[w.s[at]] && on(at+1, g)
	case place:
		p := &program{lines: w.lines}
		return p.stands(n.kind, w.s, at) && on(at, g)
	case look:
		if w.ways(n.in, at, g, func(int, tuple) bool { return true }) == n.not {
			return false
		}
		return on(at, g)
	case group:
		return w.ways(n.in, at, g, func(end int, g tuple) bool {
			if n.number > 0 {
				g = slices.Clone(g)
				g[n.number] = api.Span{From: at, To: end}
			}
			return on(end, g)
		})
	case back:
		if g[n.number].From < 0 {
			return false
		}
		b := w.s[g[n.number].From:g[n.number].To]
		if len(w.s)-at < len(b) {
			return false
		}
		here := w.s[at : at+len(b)]
		return (here == b || w.fold && text.Lower(here) == text.Lower(b)) && on(at+len(b), g)
	case pieces:
		if len(n.list) == 0 {
			return on(at, g)
		}
		return w.ways(n.list[0], at, g, func(at int, g tuple) bool { return w.ways(pieces{n.list[1:]}, at, g, on) })
	case branches:
		for _, b := range n.list {
			if w.ways(b, at, g, on) {
				return true
			}
		}
		return false
	case repeat:
		if n.from > 0 {
			rest := n
			rest.from--
			rest.most = max(n.most-1, -1)
			if n.most < 0 {
				rest.most = -1
			}
			return w.ways(n.in, at, g, func(at int, g tuple) bool { return w.ways(rest, at, g, on) })
		}
		if n.lazy && on(at, g) {
			return true
		}
		if n.most != 0 {
			rest := n
			if n.most > 0 {
				rest.most--
			}
			if w.ways(n.in, at, g, func(end int, g tuple) bool { return end > at && w.ways(rest, end, g, on) }) {
				return true
			}
		}
		return !n.lazy && on(at, g)
	}
	return false
}

func (w *slow) find(p pattern, from int) tuple {
	for at := from; at <= len(w.s); at++ {
		g := make(tuple, p.groups+1)
		for i := range g {
			g[i] = api.Span{From: -1, To: -1}
		}
		var r tuple
		if w.ways(p.root, at, g, func(end int, g tuple) bool {
			r = slices.Clone(g)
			r[0] = api.Span{From: at, To: end}
			return true
		}) {
			return r
		}
	}
	return nil
}

func randomPattern(r *rand.Rand, deep int) string {
	atoms := []string{"a", "b", "A", ".", "[ab]", "[^a]", "\\w", "\\D", "\\n", "[^\\d]"}
	var b strings.Builder
	for range r.Intn(4) {
		repeatable := true
		switch k := r.Intn(14); {
		case k < 6 || deep == 0:
			b.WriteString(atoms[r.Intn(len(atoms))])
		case k < 9:
			b.WriteString("(" + randomPattern(r, deep-1) + ")")
		case k < 10:
			b.WriteString("(?:" + randomPattern(r, deep-1) + "|" + randomPattern(r, deep-1) + ")")
		case k < 11:
			repeatable = false
			b.WriteString([]string{"^", "$", "\\y"}[r.Intn(3)])
		case k < 12:
			repeatable = false
			inner := strings.ReplaceAll(strings.ReplaceAll(randomPattern(r, deep-1), "(", "(?:"), "(?:?", "(?")
			b.WriteString([]string{"(?=", "(?!"}[r.Intn(2)] + inner + ")")
		default:
			b.WriteString("\\" + string(rune('1'+r.Intn(2))))
		}
		if repeatable && r.Intn(2) == 0 {
			b.WriteString([]string{"*", "+", "?", "{2}", "{1,3}", "{0,2}", "*?", "+?", "??", "{1,}?", "{0}"}[r.Intn(11)])
		}
	}
	if r.Intn(6) == 0 {
		b.WriteString("|" + randomPattern(r, 0))
	}
	return b.String()
}

// 7.3
func TestFindAgainstTheWays(t *testing.T) {
	r := rand.New(rand.NewSource(7))
	done := 0
	for range 60000 {
		s := randomPattern(r, 3)
		p, _, e := read(s)
		if e != api.OK {
			continue
		}
		b := make([]byte, r.Intn(7))
		for i := range b {
			b[i] = "aabbA\n1"[r.Intn(7)]
		}
		fold, lines := r.Intn(2) == 0, r.Intn(2) == 0
		w := &slow{s: string(b), fold: fold, lines: lines}
		from := r.Intn(len(b) + 1)
		want := w.find(p, from)
		none := make(tuple, p.groups+1)
		for i := range none {
			none[i].From = -1
		}
		whole := w.ways(p.root, 0, none, func(at int, _ tuple) bool { return at == len(b) })
		if w.tries > 300000 {
			continue
		}
		done++
		got, e := Find(s, string(b), from, fold, lines)
		if !slices.Equal(got, want) || (want == nil) != (e == api.ErrNone) {
			t.Fatalf("Find(%q, %q, %d, %t, %t) = %v, not %v", s, b, from, fold, lines, got, want)
		}
		if ok, _ := Match(s, string(b), fold, lines); ok != whole {
			t.Fatalf("Match(%q, %q, %t, %t) = %t", s, b, fold, lines, ok)
		}
		all, _ := All(s, string(b), fold, lines)
		at := 0
		for _, m := range all {
			w.tries = 0
			if want := w.find(p, at); !slices.Equal(m, want) {
				t.Fatalf("All(%q, %q, %t, %t) has %v, not %v", s, b, fold, lines, m, want)
			}
			at = m[0].To
			if m[0].From == m[0].To {
				at++
			}
		}
		if at <= len(b) && w.find(p, at) != nil {
			t.Fatalf("All(%q, %q) lacks one", s, b)
		}
		if n, _ := Count(s, string(b), fold, lines); n != len(all) {
			t.Fatal("Count")
		}
	}
	if done < 10000 {
		t.Errorf("only %d patterns were tried", done)
	}
}

// 7.3
func TestFind(t *testing.T) {
	for _, c := range []struct {
		pattern, s string
		want       tuple
	}{
		{"a(b|c)*d", "xabcd", spans(1, 5, 3, 4)}, {"(a*?)(a*)", "aa", spans(0, 2, 0, 0, 0, 2)}, {"(a|ab)(c|bcd)", "abcd", spans(0, 4, 0, 1, 1, 4)}, {"(x)?a", "a", spans(0, 1, -1, -1)}, {"(a\\1)", "aa", nil}, {"(?:(a)|\\1b)*", "aab", spans(0, 2, 1, 2)},
	} {
		if got, _ := Find(c.pattern, c.s, 0, false, false); !slices.Equal(got, c.want) {
			t.Errorf("Find(%q, %q) = %v", c.pattern, c.s, got)
		}
	}
	long := strings.Repeat("a", api.MaxText)
	for _, c := range []struct {
		pattern, s string
		from       int
		e          api.Errno
	}{{"(", long + "a", -1, api.ErrSyntax}, {strings.Repeat("()", 21), long + "a", -1, api.ErrLimit}, {"a", long + "a", -1, api.ErrRange}, {"a", "a", 2, api.ErrRange}, {"a", long + "a", 0, api.ErrLong}, {"(a)\\1", long[:201], 0, api.ErrLong}, {"(?!b)", long[:201], 0, api.ErrLong}, {"b", long, 0, api.ErrNone}, {"(a*)*b", long, 0, api.ErrNone}, {"(a)\\1", long[:200], 0, 0}, {"a*b|a", long, 0, 0}} {
		if _, e := Find(c.pattern, c.s, c.from, false, false); e != c.e {
			t.Errorf("Find(%.9q): %d", c.pattern, e)
		}
	}
	if n, e := Count("a*b|a", long, false, false); n != api.MaxText || e != 0 {
		t.Errorf("Count = %d, %d", n, e)
	}
	if _, e := Match("(a*)*b", long+"a", false, false); e != api.ErrLong {
		t.Error("Match of a long text")
	}
	for _, e := range []api.Errno{second(Count("(", "", false, false)), second(All("(", "", false, false)), second(Split("(", "", false, false)), second(Match("(", "", false, false))} {
		if e != api.ErrSyntax {
			t.Error("of no pattern")
		}
	}
}

func second[T any](_ T, e api.Errno) api.Errno { return e }

// 7.4
func TestReplace(t *testing.T) {
	for _, c := range []struct {
		pattern, s, with string
		all              bool
		want             string
		n                int
		e                api.Errno
	}{
		{"(.)(.)", "abcd", "\\2\\1", true, "badc", 2, 0}, {"(.)(.)", "abcd", "\\2\\1", false, "bacd", 1, 0}, {"x", "ab", "y", true, "ab", 0, 0}, {"a*", "baac", "-", true, "-b--c-", 4, 0}, {"", "ab", ".", true, ".a.b.", 3, 0}, {"b", "abc", "[&\\0\\&\\\\\\n\\9]", true, "a[bb&\\\\n]c", 1, 0}, {"b", "b", "\\", true, "\\", 1, 0},
		{"(", "", "", true, "", 0, api.ErrSyntax}, {"a", "aa", strings.Repeat("x", 32769), true, "", 0, api.ErrLimit}, {"a", "aa", strings.Repeat("x", 32768), true, strings.Repeat("x", 65536), 2, 0}, {".*", strings.Repeat("a", 60000), strings.Repeat("&", 60000), true, "", 0, api.ErrLimit},
	} {
		s, n, e := Replace(c.pattern, c.s, c.with, c.all, false, false)
		if s != c.want || n != c.n || e != c.e {
			t.Errorf("Replace(%q, %.9q, %.9q) = %.20q, %d, %d", c.pattern, c.s, c.with, s, n, e)
		}
	}
	for _, c := range []struct {
		m    []api.Span
		want string
		e    api.Errno
	}{{spans(0, 1, -1, 99), "aa[]", 0}, {nil, "", api.ErrRange}, {spans(1, 0), "", api.ErrRange}, {spans(0, 3), "", api.ErrRange}, {spans(-2, 0), "", api.ErrRange}, {spans(-1, -1, 1, 2), "[b]", 0}} {
		if s, e := Expand("&\\0[\\1]", "ab", c.m); s != c.want || e != c.e {
			t.Errorf("Expand(%v) = %q, %d", c.m, s, e)
		}
	}
	for _, c := range []struct {
		pattern, s string
		want       []string
	}{{",", "a,b,,c", []string{"a", "b", "", "c"}}, {",*", "a,,b", []string{"a", "b"}}, {"x", "", []string{""}}, {",", ",", []string{"", ""}}} {
		if l, e := Split(c.pattern, c.s, false, false); !slices.Equal(l, c.want) || e != 0 {
			t.Errorf("Split(%q, %q) = %q", c.pattern, c.s, l)
		}
	}
}
