package text

import (
	"strings"
	"testing"

	"threadbare/api"
)

func same[T comparable](t *testing.T, name string, got, want T) {
	t.Helper()
	if got != want {
		t.Errorf("%s = %v, not %v", name, got, want)
	}
}

func long(n int) string { return strings.Repeat("x", n) }

// 1.1
func TestLooking(t *testing.T) {
	for c := range 256 {
		same(t, "White", White(byte(c)), c >= 9 && c <= 13 || c == 32)
	}
	same(t, "Compare", Compare("a\xff", "a"), 1)
	same(t, "Compare", Compare("", ""), 0)
	same(t, "Compare", Compare("B", "a"), -1)
	same(t, "Range", Range("hello", 1, 3), "ell")
	same(t, "Range", Range("hello", -2, 0), "h")
	same(t, "Range", Range("hello", 4, 9), "o")
	same(t, "Range", Range("hello", 5, 9), "")
	same(t, "Range", Range("hello", -3, -1), "")
	same(t, "First", First("aa", "aaaa", 1), 1)
	same(t, "First", First("aa", "aaaa", 3), -1)
	same(t, "First", First("b", "a", 1<<62), -1)
	same(t, "Last", Last("aa", "aaaa", 1), 1)
	same(t, "Last", Last("aa", "aaaa", 3), 2)
	same(t, "Last", Last("aa", "aaaa", 1<<62), 2)
	same(t, "Last", Last("b", "a", 0), -1)
	same(t, "Last of a long needle", Last("abc", "ab", 0), -1)
	same(t, "Count", Count("ab", "ababab"), 3)
}

// 1.2
func TestChanging(t *testing.T) {
	if s, e := Repeat("a", api.MaxText); e != api.OK || len(s) != api.MaxText {
		t.Error("Repeat up to the limit")
	}
	if _, e := Repeat("a", api.MaxText+1); e != api.ErrLimit {
		t.Error("Repeat beyond the limit")
	}
	same(t, "Reverse", Reverse(Reverse("a\x00bc")), "a\x00bc")
	same(t, "Lower", Lower("AZ[`\xc4"), "az[`\xc4")
	same(t, "Upper", Upper("az{@\xe4"), "AZ{@\xe4")
	same(t, "Title", Title("éAB"), "éab")
	same(t, "Trim", Trim("abcba", "ab", true, true), "c")
	same(t, "Trim of all", Trim("aaa", "a", true, true), "")
	same(t, "Trim of none", Trim(" a ", "", true, true), " a ")
	for _, c := range []struct {
		s     string
		pairs []string
		fold  bool
		want  string
		e     api.Errno
	}{
		{"aab", []string{"a", "1", "aa", "2"}, false, "11b", 0},
		{"Aab", []string{"a", "1"}, false, "A1b", 0},
		{"Aab", []string{"A", "1"}, true, "11b", 0},
		{"[{", []string{"{", "1"}, true, "[1", 0},
		{"ab", []string{"", "1"}, true, "ab", 0},
		{"ab", []string{"ab", ""}, false, "", 0},
		{long(2), []string{"x", long(api.MaxText / 2)}, false, long(api.MaxText), 0},
		{long(2), []string{"x", long(api.MaxText/2 + 1)}, false, "", api.ErrLimit},
		{long(api.MaxText + 1), []string{"y"}, false, "", api.ErrInvalid},
		{long(api.MaxText + 1), nil, false, "", api.ErrLimit},
	} {
		if s, e := Map(c.s, c.pairs, c.fold); s != c.want || e != c.e {
			t.Errorf("Map(%.9q, %.40q) = %.9q, %d", c.s, c.pairs, s, e)
		}
	}
	for _, c := range []struct {
		s        string
		from, to int
		with     string
		want     string
		e        api.Errno
	}{
		{"abc", 0, 0, "x", "xbc", 0}, {"abc", -9, 9, "x", "x", 0}, {"abc", 3, 9, "x", "abc", 0}, {"abc", 0, -1, "x", "abc", 0},
		{"", 0, 0, "x", "", 0}, {"ab", 1, 1, long(api.MaxText - 1), "a" + long(api.MaxText-1), 0}, {"ab", 1, 1, long(api.MaxText), "", api.ErrLimit},
		{long(api.MaxText + 1), 2, 1, "", "", api.ErrLimit}, {long(api.MaxText + 1), 0, 0, "", long(api.MaxText), 0},
	} {
		if s, e := Replace(c.s, c.from, c.to, c.with); s != c.want || e != c.e {
			t.Errorf("Replace(%.9q, %d, %d) = %.9q, %d", c.s, c.from, c.to, s, e)
		}
	}
}

// 1.3
func TestMatching(t *testing.T) {
	for _, c := range []struct {
		pattern, s string
		fold, want bool
	}{
		{"a*[x-z]?", "abczq", false, true}, {"a*[x-z]?", "abcz", false, false}, {"", "", false, true}, {"", "a", false, false},
		{"*a", "bab", false, false}, {"*a", "baba", false, true}, {"*ab*ab", "ab", false, false}, {"*ab*ab", "abab", false, true}, {"a*a", "a", false, false},
		{"[z-a]", "m", false, true}, {"[--0]", ".", false, true}, {"[a-c-]", "-", false, true}, {"[a-c-]", "b", false, true}, {"[^a]", "^", false, true}, {"[[]", "[", false, true},
		{"[]]", "]", false, false}, {"[]*", "a", false, false}, {"*[", "", false, false}, {"[\\]", "\\", false, true}, {"\\[", "[", false, true}, {"\\", "\\", false, true}, {"]", "]", false, true},
		{"[A]", "a", true, true}, {"[a-z]", "Q", true, true}, {"\\A", "a", true, true}, {"[@-[]", "a", true, true}, {"?", "\n", false, true},
	} {
		same(t, "Glob "+c.pattern+" of "+c.s, Glob(c.pattern, c.s, c.fold), c.want)
	}
	same(t, "Glob of many stars", Glob(strings.Repeat("*a", 1000), long(60000), false), false)
	escaped := ""
	for c := range 256 {
		escaped += "\\" + string([]byte{byte(c)})
	}
	all := strings.ReplaceAll(escaped, "\\", "")
	all = all[:92] + "\\" + all[92:]
	same(t, "Glob of all bytes escaped", Glob(escaped, all, false), true)
	for class, in := range map[string]string{"alnum": "aZ0", "alpha": "azAZ", "digit": "09", "lower": "az", "upper": "AZ", "space": "\t\r ", "print": " ~", "xdigit": "09afAF"} {
		if ok, e := Is(class, in); !ok || e != api.OK {
			t.Errorf("Is(%s, %q)", class, in)
		}
		if ok, e := Is(class, in+"\x80"); ok || e != api.OK {
			t.Errorf("Is(%s) of another byte", class)
		}
	}
	if ok, e := Is("", ""); ok || e != api.ErrName {
		t.Error("Is of no class")
	}
}

// 1.4
func TestPlaces(t *testing.T) {
	for _, c := range []struct {
		word string
		n    int
		want int
		e    api.Errno
	}{
		{"0", 0, 0, 0}, {"-0", 0, 0, 0}, {"007", 0, 7, 0}, {"999999999", 1, 999999999, 0}, {"1000000000", 1, 0, api.ErrSyntax}, {"end", 0, -1, 0}, {"end-999999999", 9, -999999991, 0},
		{"-1+3", 9, 2, 0}, {"1+-1", 9, 0, api.ErrSyntax}, {"end+-1", 9, 0, api.ErrSyntax}, {"+5", 9, 0, api.ErrSyntax}, {"-end", 9, 0, api.ErrSyntax}, {"end--1", 9, 0, api.ErrSyntax}, {"1-", 9, 0, api.ErrSyntax},
		{"en", 9, 0, api.ErrSyntax}, {"-", 9, 0, api.ErrSyntax}, {"1+2+3", 9, 0, api.ErrSyntax}, {" 1", 9, 0, api.ErrSyntax}, {"x", -1, 0, api.ErrRange},
	} {
		if n, e := Place(c.word, c.n); n != c.want || e != c.e {
			t.Errorf("Place(%q, %d) = %d, %d", c.word, c.n, n, e)
		}
	}
}

// 1.4
func TestEscapes(t *testing.T) {
	for _, c := range []struct {
		s, want string
		n       int
	}{
		{"\\a", "\a", 2}, {"\\b", "\b", 2}, {"\\f", "\f", 2}, {"\\n", "\n", 2}, {"\\r", "\r", 2}, {"\\t", "\t", 2}, {"\\v", "\v", 2}, {"\\x", "x", 2}, {"\\xg", "x", 2}, {"\\xfG", "\x0f", 3}, {"\\xfff", "\xff", 4},
		{"\\0", "\x00", 2}, {"\\400", "\x00", 4}, {"\\8", "8", 2}, {"\\\n\t b", " ", 4}, {"\\\n\n", " ", 2}, {"\\\\n", "\\", 2}, {"\\", "\\", 1}, {"", "", 0}, {"n", "", 0}, {"\\\xe4", "\xe4", 2},
	} {
		if s, n := Unescape(c.s); s != c.want || n != c.n {
			t.Errorf("Unescape(%q) = %q, %d", c.s, s, n)
		}
	}
	same(t, "Unescaped", Unescaped("\\\\n\\n\\"), "\\n\n\\")
	same(t, "Unescaped", Unescaped("plain"), "plain")
	same(t, "Detail", Detail(long(41)), long(40))
	same(t, "Detail", Detail("ab"), "ab")
}
