package spell

import (
	"slices"
	"strings"
	"testing"

	"threadbare/api"
)

func nines(n int) string { return strings.Repeat("9", n) }

// 8.1
func TestFormat(t *testing.T) {
	long := strings.Repeat("x", api.MaxText)
	for _, c := range []struct {
		spec string
		args []string
		want string
		at   int
		e    api.Errno
	}{
		{"%05d|%-4s|%#x", []string{"-42", "ab", "255"}, "-0042|ab  |0xff", 0, 0}, {"%#d %#X %#o %#b %#x", []string{"5", "-255", "8", "0", "0"}, "5 -0XFF 0o10 0b0 0x0", 0, 0}, {"%+.3d|% d|%+ d|%+d", []string{"7", "7", "7", "-7"}, "+007| 7|+7|-7", 0, 0},
		{"%-5s|%5s|%05s|%.2s|%5.1s|%.0s|", []string{"ab", "ab", "ab", "abc", "xyz", "q"}, "ab   |   ab|   ab|ab|    x||", 0, 0}, {"%q %.2q %8q", []string{"a b", "a b", "a b"}, "{a b} {a    {a b}", 0, 0}, {"%c%3c%-3c|%.0c", []string{"65", "0x42", "67", "68"}, "A  BC  |D", 0, 0},
		{"%08.3d|%-08d|%08d|%#08x|%+08d", []string{"5", "5", "-5", "5", "5"}, "     005|5       |-0000005|0x000005|+0000005", 0, 0}, {"%*d|%-*d|%*d|%.*d|%.*s", []string{"4", "1", "3", "2", "-3", "3", "2", "4", "-1", "abc"}, "   1|2  |3  |04|abc", 0, 0}, {"%0*d|%0.*d", []string{"4", "7", "-1", "7"}, "0007|7", 0, 0},
		{"%2$s%1$s%%%2$s", []string{"a", "b"}, "ba%b", 0, 0}, {"%.0d", []string{"0"}, "0", 0, 0}, {"%  --++00##d", []string{"1"}, "+1", 0, 0}, {"%s", []string{"a", "b"}, "a", 0, 0}, {"%d", []string{" 0b11 "}, "3", 0, 0}, {"plain", nil, "plain", 0, 0},
		{"ab%", nil, "", 2, api.ErrSyntax}, {"%y", nil, "", 0, api.ErrSyntax}, {"%5%", nil, "", 0, api.ErrSyntax}, {"%1$%", []string{"1"}, "", 0, api.ErrSyntax}, {"%.d", []string{"1"}, "", 0, api.ErrSyntax}, {"%1000d", []string{"1"}, "", 0, api.ErrSyntax}, {"%.1000d", []string{"1"}, "", 0, api.ErrSyntax}, {"%0$s", []string{"1"}, "", 0, api.ErrSyntax}, {"%100$s", []string{"1"}, "", 0, api.ErrSyntax},
		{"%s %1$s", []string{"1"}, "", 3, api.ErrSyntax}, {"%1$s%% %s", []string{"1"}, "", 7, api.ErrSyntax}, {"%1$*d", []string{"1"}, "", 0, api.ErrSyntax}, {"%1$.*d", []string{"1"}, "", 0, api.ErrSyntax}, {"%s%y", nil, "", 0, api.ErrNone}, {"%s %s", []string{"1"}, "", 3, api.ErrNone}, {"%2$s", []string{"1"}, "", 0, api.ErrNone}, {"%*d", []string{"5"}, "", 0, api.ErrNone},
		{"%d", []string{"x"}, "", 0, api.ErrKind}, {"a%*d", []string{"x", "y"}, "", 1, api.ErrKind}, {"%*d", []string{"1000"}, "", 0, api.ErrRange}, {"%.*d", []string{"-1000"}, "", 0, api.ErrRange}, {"%c", []string{"256"}, "", 0, api.ErrRange}, {"%c", []string{"-1"}, "", 0, api.ErrRange}, {"%c", []string{nines(700)}, "", 0, api.ErrRange}, {"%*d", []string{nines(700)}, "", 0, api.ErrRange}, {"%c", []string{"a"}, "", 0, api.ErrKind},
		{"%d", []string{nines(601)}, "", 0, api.ErrLimit}, {"%s%s", []string{long, "x"}, "", 2, api.ErrLimit}, {"%s.", []string{long}, "", 0, api.ErrLimit}, {"%s", []string{long}, long, 0, 0}, {"%s%%", []string{long}, "", 2, api.ErrLimit}, {"%b", []string{nines(600)}, "", 0, -1},
	} {
		s, at, e := Format(c.spec, c.args)
		if c.e == -1 {
			if e != 0 || len(s) < 1990 {
				t.Error("Format of many digits")
			}
			continue
		}
		if s != c.want || at != c.at || e != c.e {
			t.Errorf("Format(%q) = %.50q, %d, %d", c.spec, s, at, e)
		}
	}
	for spec, want := range map[string]int{"": 0, "%%": 0, "%d %*.*s": 4, "%3$s%1$s": 3, "%s%%%s": 2} {
		if n, e := Needs(spec); n != want || e != 0 {
			t.Errorf("Needs(%q) = %d, %d", spec, n, e)
		}
	}
	if n, e := Needs("%s%"); n != 0 || e != api.ErrSyntax {
		t.Error("Needs of none")
	}
	for _, c := range []struct {
		spec string
		scan bool
		at   int
		e    api.Errno
	}{{"%d%q", false, 0, 0}, {"%d%q", true, 2, api.ErrSyntax}, {"%*n", true, 0, 0}, {"a%5c", true, 1, api.ErrSyntax}, {"%5n", true, 0, api.ErrSyntax}, {"%*%", true, 0, api.ErrSyntax}, {"%[a", true, 0, api.ErrSyntax}, {"%[]", true, 0, api.ErrSyntax}, {"%[^]", true, 0, api.ErrSyntax}, {"%[^]]", true, 0, 0}, {"%05d", true, 0, api.ErrSyntax}, {"%999d%1d", true, 0, 0}, {"%1000d", true, 0, api.ErrSyntax}, {"%s%1$s", false, 2, api.ErrSyntax}, {"%", true, 0, api.ErrSyntax}, {"%*", true, 0, api.ErrSyntax}} {
		if at, e := Check(c.spec, c.scan); at != c.at || e != c.e {
			t.Errorf("Check(%q) = %d, %d", c.spec, at, e)
		}
	}
}

// 8.2
func TestScan(t *testing.T) {
	for _, c := range []struct {
		s, spec string
		want    string
		done    int
		e       api.Errno
	}{
		{"10, ff rest", "%d, %x %s", "10|255|rest", 3, 0}, {"  -007+8", "%d%d", "-7|8", 2, 0}, {"12345", "%2d%d", "12|345", 2, 0}, {"-12", "%2d%d", "-1|2", 2, 0}, {"-1", "%1d", "", 0, 0}, {"+", "%d", "", 0, 0}, {"101 17 fF", "%b %o %x", "5|15|255", 3, 0}, {"0x1", "%x%s", "0|x1", 2, 0}, {"", "%d", "", 0, 0}, {"12", "%b", "1", 1, 0},
		{"  ab cd", "%s%c%s", "ab|32|cd", 3, 0}, {"abcd", "%2s%s", "ab|cd", 2, 0}, {"aab", "%[a]%[^a]", "aa|b", 2, 0}, {" a", "%[a]", "", 0, 0}, {"]-a", "%[]-]%[a-]", "]-|a", 2, 0}, {"abc1", "%[c-a]%d", "abc|1", 2, 0}, {"abc", "%2[a-c]%n", "ab|2", 2, 0}, {"^]", "%[]^]", "^]", 1, 0}, {"ab", "%[^]b]", "a", 1, 0},
		{"a b", "a%*s%n", "3", 2, 0}, {"12 x", "%*d %c", "120", 2, 0}, {"5%", "%d%%", "5", 1, 0}, {"5 %6", "%d%%%d", "5|6", 2, 0}, {"5x", "%d%%%d", "5", 1, 0}, {"ab", "a  b%n", "2", 1, 0}, {"a\n\tb", "a b%n", "4", 1, 0}, {"x", "y%d", "", 0, 0}, {"10   ", "%d %n%d", "10|5", 2, 0}, {"abc", "abc", "", 0, 0}, {"", "%n", "0", 1, 0}, {"", "%c", "", 0, 0},
		{"1", "%d%", "", 0, api.ErrSyntax}, {"5 " + nines(601), "%d %d", "", 0, api.ErrLimit}, {strings.Repeat("0", 900) + "7", "%d", "7", 1, 0}, {"\xff", "%c", "255", 1, 0},
	} {
		l, done, e := Scan(c.s, c.spec)
		if strings.Join(l, "|") != c.want || done != c.done || e != c.e {
			t.Errorf("Scan(%.20q, %q) = %q, %d, %d", c.s, c.spec, l, done, e)
		}
	}
	for spec, want := range map[string]int{"": 0, "%d%*d%%%n%[a]": 3} {
		if n, e := Reads(spec); n != want || e != 0 {
			t.Errorf("Reads(%q) = %d", spec, n)
		}
	}
	if n, e := Reads("%d%"); n != 0 || e != api.ErrSyntax {
		t.Error("Reads of none")
	}
}

type result struct {
	s string
	e api.Errno
}

func of(s string, e api.Errno) result { return result{s, e} }

// 8.3, 8.4
func TestOthers(t *testing.T) {
	for _, c := range []struct {
		name      string
		got, want result
	}{
		{"Pad", of(Pad("ab", 4, true, '.')), of("..ab", 0)}, {"Pad", of(Pad("ab", 4, false, '.')), of("ab..", 0)}, {"Pad", of(Pad("ab", 1, true, '.')), of("ab", 0)}, {"Pad", of(Pad("", 1000, true, '.')), of("", api.ErrRange)}, {"Pad", of(Pad("", -1, true, '.')), of("", api.ErrRange)},
		{"Number", of(Number("-10", 16, 4, true, true)), of("-0x000a", 0)}, {"Number", of(Number("5", 10, 0, true, true)), of("+5", 0)}, {"Number", of(Number("5", 2, 0, false, true)), of("0b101", 0)}, {"Number", of(Number("x", 3, 0, false, true)), of("", api.ErrRange)}, {"Number", of(Number("x", 8, 1000, false, true)), of("", api.ErrRange)}, {"Number", of(Number("x", 8, -1, false, true)), of("", api.ErrRange)}, {"Number", of(Number("x", 8, 0, false, true)), of("", api.ErrSyntax)}, {"Number", of(Number(nines(601), 8, 0, false, true)), of("", api.ErrLimit)},
		{"Group", of(Group("1234567", ",", 3)), of("1,234,567", 0)}, {"Group", of(Group("-123456", "..", 3)), of("-123..456", 0)}, {"Group", of(Group(" 0x10", ",", 1)), of("1,6", 0)}, {"Group", of(Group("0", ",", 1)), of("0", 0)}, {"Group", of(Group("x", "", 0)), of("", api.ErrInvalid)}, {"Group", of(Group("x", "a1", 0)), of("", api.ErrInvalid)}, {"Group", of(Group("x", "-", 0)), of("", api.ErrInvalid)}, {"Group", of(Group("x", ",", 0)), of("", api.ErrRange)}, {"Group", of(Group("x", ",", 101)), of("", api.ErrRange)}, {"Group", of(Group("x", ",", 1)), of("", api.ErrSyntax)}, {"Group", of(Group(nines(601), ",", 1)), of("", api.ErrLimit)},
		{"Ungroup", of(Ungroup("-1,234,567", ",", 3)), of("-1234567", 0)}, {"Ungroup", of(Ungroup("12,34", ",", 3)), of("", api.ErrSyntax)}, {"Ungroup", of(Ungroup("0,001", ",", 3)), of("", api.ErrSyntax)}, {"Ungroup", of(Ungroup("1234", ",", 3)), of("", api.ErrSyntax)}, {"Ungroup", of(Ungroup(" 1", ",", 3)), of("", api.ErrSyntax)}, {"Ungroup", of(Ungroup("", ",", 3)), of("", api.ErrSyntax)}, {"Ungroup", of(Ungroup(",", "", 3)), of("", api.ErrInvalid)}, {"Ungroup", of(Ungroup("1", ",", 0)), of("", api.ErrRange)}, {"Ungroup", of(Ungroup(nines(601), ",", 100)), of("", api.ErrSyntax)}, {"Ungroup", of(Ungroup("-,1", ",", 1)), of("", api.ErrSyntax)},
		{"Roman", of(Roman(1994)), of("MCMXCIV", 0)}, {"Roman", of(Roman(0)), of("", api.ErrRange)}, {"Roman", of(Roman(4000)), of("", api.ErrRange)},
		{"Columns", of(Columns([][]string{{"a", "bb", "c"}, {}, {"ddd", "e"}, {"x"}}, 2)), of("a    bb  c\n\nddd  e\nx\n", 0)}, {"Columns", of(Columns([][]string{{"a", "b"}, {"long"}}, 0)), of("a   b\nlong\n", 0)}, {"Columns", of(Columns(nil, 100)), of("", api.ErrRange)}, {"Columns", of(Columns(nil, -1)), of("", api.ErrRange)}, {"Columns", of(Columns([][]string{{strings.Repeat("x", api.MaxText)}}, 0)), of("", api.ErrLimit)}, {"Columns", of(Columns([][]string{{strings.Repeat("x", api.MaxText-1)}}, 0)), of(strings.Repeat("x", api.MaxText-1)+"\n", 0)}, {"Columns", of(Columns([][]string{{"", "a"}, {strings.Repeat("x", 40000), "b"}}, 0)), of("", api.ErrLimit)},
	} {
		if c.got != c.want {
			t.Errorf("%s = %.60q, %d, not %.60q, %d", c.name, c.got.s, c.got.e, c.want.s, c.want.e)
		}
	}
	for n := 1; n < 4000; n++ {
		s, _ := Roman(n)
		if back, e := Unroman(s); back != n || e != 0 {
			t.Fatalf("Unroman(%s) = %d", s, back)
		}
	}
	for _, s := range []string{"", "IIII", "VV", "IC", "iv", "MMMM", "IVI", "X I", strings.Repeat("M", 9999)} {
		if n, e := Unroman(s); n != 0 || e != api.ErrSyntax {
			t.Errorf("Unroman(%.9q) = %d, %d", s, n, e)
		}
	}
	for _, c := range []struct {
		s     string
		width int
		want  []string
		e     api.Errno
	}{{" aa b\ncc  dddddd e ", 4, []string{"aa b", "cc", "dddddd", "e"}, 0}, {" \t", 4, nil, 0}, {"\xff\xa0 b", 3, []string{"\xff\xa0", "b"}, 0}, {"a", 0, nil, api.ErrRange}, {"a", 1000, nil, api.ErrRange}, {"a b", 999, []string{"a b"}, 0}} {
		if l, e := Wrap(c.s, c.width); !slices.Equal(l, c.want) || e != c.e {
			t.Errorf("Wrap(%q, %d) = %q, %d", c.s, c.width, l, e)
		}
	}
}
