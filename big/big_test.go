package big

import (
	mathbig "math/big"
	"math/rand"
	"strings"
	"testing"

	"threadbare/api"
)

func is(t *testing.T, name, s string, e api.Errno, want string, wantE api.Errno) {
	t.Helper()
	if s != want || e != wantE {
		t.Errorf("%s = %.80q, %d, not %.80q, %d", name, s, e, want, wantE)
	}
}

func nines(n int) string { return strings.Repeat("9", n) }

// 3.1
func TestCanonical(t *testing.T) {
	for s, want := range map[string]string{"007": "7", "+0x1F": "31", "-0b101": "-5", "0o17": "15", " \t\n12\r ": "12", "-0": "0", "-0x0": "0", "0xaBc": "2748", strings.Repeat("0", 9999) + "1": "1", nines(600): nines(600)} {
		got, e := Canonical(s)
		is(t, "Canonical "+s[:min(9, len(s))], got, e, want, 0)
		if !Valid(s) {
			t.Errorf("Valid(%.9q)", s)
		}
	}
	for _, s := range []string{"", " ", "0x", "- 5", "1_000", "1.0", "--1", "+", "0X1", "0b2", "0o8", "0xg", "1 2", "a", "1\x00"} {
		got, e := Canonical(s)
		is(t, "Canonical "+s, got, e, "", api.ErrSyntax)
		if Valid(s) {
			t.Errorf("Valid(%q)", s)
		}
	}
	got, e := Canonical("1" + strings.Repeat("0", 600))
	is(t, "Canonical", got, e, "", api.ErrLimit)
	if Valid(nines(601)) {
		t.Error("Valid of too many digits")
	}
}

func random(r *rand.Rand) string {
	n := mathbig.NewInt(r.Int63n(9))
	if r.Intn(4) > 0 {
		n.Rand(r, mathbig.NewInt(0).Lsh(mathbig.NewInt(1), uint(1+r.Intn(900))))
	}
	if r.Intn(3) == 0 { // digits that are all ones or zeros bring the rare steps of the division
		n.Lsh(n, 64).Or(n, mathbig.NewInt(1<<32-1))
	}
	if r.Intn(2) == 0 {
		n.Neg(n)
	}
	return n.String()
}

func of(s string) *mathbig.Int {
	n, _ := mathbig.NewInt(0).SetString(s, 10)
	return n
}

// 3.1, 3.2, 3.3: held against another way of reckoning
func TestReckoning(t *testing.T) {
	r := rand.New(rand.NewSource(1))
	for range 3000 {
		a, b := random(r), random(r)
		x, y := of(a), of(b)
		n := func() *mathbig.Int { return mathbig.NewInt(0) }
		for name, c := range map[string]struct {
			f    func(a, b string) (string, api.Errno)
			want *mathbig.Int
		}{"Add": {Add, n().Add(x, y)}, "Sub": {Sub, n().Sub(x, y)}, "Mul": {Mul, n().Mul(x, y)}, "And": {And, n().And(x, y)}, "Or": {Or, n().Or(x, y)}, "Xor": {Xor, n().Xor(x, y)}, "Gcd": {Gcd, n().GCD(nil, nil, n().Abs(x), n().Abs(y))}} {
			s, e := c.f(a, b)
			is(t, name+" "+a+" "+b, s, e, c.want.String(), 0)
		}
		if c, e := Compare(a, b); c != x.Cmp(y) || e != 0 {
			t.Errorf("Compare(%s, %s) = %d", a, b, c)
		}
		if y.Sign() != 0 {
			q, rest, e := Div(a, b)
			is(t, "Div", rest, e, n().Sub(x, n().Mul(of(q), y)).String(), 0)
			if of(rest).Sign() != 0 && of(rest).Sign() != y.Sign() || n().Abs(of(rest)).Cmp(n().Abs(y)) >= 0 {
				t.Errorf("Div(%s, %s) leaves %s", a, b, rest)
			}
		}
		shift := r.Intn(300)
		s, e := Shift(a, shift)
		is(t, "Shift", s, e, n().Lsh(x, uint(shift)).String(), 0)
		s, e = Shift(a, -shift)
		is(t, "Shift down", s, e, n().Rsh(x, uint(shift)).String(), 0)
		s, e = Not(a)
		is(t, "Not", s, e, n().Not(x).String(), 0)
		s, e = Neg(a)
		is(t, "Neg", s, e, n().Neg(x).String(), 0)
		s, e = Abs(a)
		is(t, "Abs", s, e, n().Abs(x).String(), 0)
		s, e = Root(n().Abs(x).String())
		is(t, "Root", s, e, n().Sqrt(n().Abs(x)).String(), 0)
		if v, e := Sign(a); v != x.Sign() || e != 0 {
			t.Error("Sign")
		}
		base := 2 + r.Intn(35)
		s, e = Base(a, base)
		is(t, "Base", s, e, x.Text(base), 0)
		s, e = Read(strings.ToUpper(s), base)
		is(t, "Read", s, e, a, 0)
	}
}

// 3.1
func TestDivision(t *testing.T) {
	for _, c := range [][4]string{{"7", "2", "3", "1"}, {"-7", "2", "-4", "1"}, {"7", "-2", "-4", "-1"}, {"-7", "-2", "3", "-1"}, {"-8", "2", "-4", "0"}, {"0", "-5", "0", "0"}, {"1", "0x100000000", "0", "1"}} {
		q, r, e := Div(c[0], c[1])
		is(t, "Div", q+" "+r, e, c[2]+" "+c[3], 0)
	}
	for _, c := range []struct {
		a, b string
		e    api.Errno
	}{{"x", "0", api.ErrSyntax}, {"1", "", api.ErrSyntax}, {"1", "-0", api.ErrZero}, {nines(601), "0", api.ErrZero}, {nines(601), "1", api.ErrLimit}, {"1", nines(601), api.ErrLimit}} {
		q, r, e := Div(c.a, c.b)
		is(t, "Div", q+r, e, "", c.e)
	}
	for _, f := range []func(a, b string) (string, api.Errno){Add, Sub, Mul, And, Or, Xor, Gcd} {
		s, e := f(nines(601), "x")
		is(t, "of no number", s, e, "", api.ErrSyntax)
		s, e = f("x", nines(601))
		is(t, "of no number", s, e, "", api.ErrSyntax)
		s, e = f("0", nines(601))
		is(t, "of too many digits", s, e, "", api.ErrLimit)
	}
	s, e := Add(nines(600), "1")
	is(t, "Add", s, e, "", api.ErrLimit)
	s, e = Sub("-"+nines(600), "0")
	is(t, "Sub", s, e, "-"+nines(600), 0)
	s, e = Mul("1"+strings.Repeat("0", 300), "1"+strings.Repeat("0", 300))
	is(t, "Mul", s, e, "", api.ErrLimit)
	if _, e := Compare(nines(601), "1"); e != api.ErrLimit {
		t.Error("Compare of too many digits")
	}
	if _, e := Sign(nines(601)); e != api.ErrLimit {
		t.Error("Sign of too many digits")
	}
	if _, e := Sign("-"); e != api.ErrSyntax {
		t.Error("Sign of no number")
	}
}

// 3.1
func TestPowers(t *testing.T) {
	for _, c := range []struct {
		a, b, want string
		e          api.Errno
	}{
		{"2", "10", "1024", 0}, {"-3", "3", "-27", 0}, {"0", "0", "1", 0}, {"0", "5", "0", 0}, {"0", "-1", "", api.ErrRange}, {"2", "-1", "", api.ErrRange}, {"1", "-5", "1", 0}, {"-1", "-5", "-1", 0}, {"-1", "-4", "1", 0}, {"1", nines(700), "1", 0}, {"-1", nines(700), "-1", 0}, {"-1", "-1" + strings.Repeat("0", 700), "1", 0},
		{"-1", "0x" + strings.Repeat("f", 700), "-1", 0}, {"0", nines(700), "0", 0}, {"2", nines(700), "", api.ErrLimit}, {"2", "-" + nines(700), "", api.ErrRange}, {nines(700), "-1", "", api.ErrRange}, {nines(700), "0", "", api.ErrLimit}, {"10", "599", "1" + strings.Repeat("0", 599), 0}, {"10", "600", "", api.ErrLimit},
		{"2", "2047", "", api.ErrLimit}, {"2", "2048", "", api.ErrLimit}, {"2", nines(20), "", api.ErrLimit}, {"", "1", "", api.ErrSyntax}, {"1", "", "", api.ErrSyntax}, {nines(600), "0", "1", 0},
	} {
		s, e := Pow(c.a, c.b)
		is(t, "Pow "+c.a[:min(9, len(c.a))]+" "+c.b[:min(9, len(c.b))], s, e, c.want, c.e)
	}
}

// 3.2, 3.3
func TestOthers(t *testing.T) {
	for _, c := range []struct {
		a    string
		n    int
		want string
		e    api.Errno
	}{{"-1", -100000, "-1", 0}, {"1", -100000, "0", 0}, {"0", 100000, "0", 0}, {"1", 100000, "", api.ErrLimit}, {"1", 100001, "", api.ErrRange}, {"1", -100001, "", api.ErrRange}, {"x", 100001, "", api.ErrSyntax}, {nines(601), -100000, "", api.ErrLimit}, {nines(601), 1 << 62, "", api.ErrRange}, {"-5", -1, "-3", 0}} {
		s, e := Shift(c.a, c.n)
		is(t, "Shift", s, e, c.want, c.e)
	}
	s, e := Root("-1")
	is(t, "Root", s, e, "", api.ErrRange)
	s, e = Root("-" + nines(601))
	is(t, "Root", s, e, "", api.ErrRange)
	s, e = Root(nines(601))
	is(t, "Root", s, e, "", api.ErrLimit)
	s, e = Gcd("0", "-0")
	is(t, "Gcd", s, e, "0", 0)
	s, e = Base(nines(600), 36)
	is(t, "Base", s, e, of(nines(600)).Text(36), 0)
	for _, c := range []struct {
		a    string
		base int
		e    api.Errno
	}{{"x", 1, api.ErrSyntax}, {"1", 1, api.ErrRange}, {"1", 37, api.ErrRange}, {nines(601), 37, api.ErrRange}, {nines(601), 10, api.ErrLimit}} {
		s, e := Base(c.a, c.base)
		is(t, "Base", s, e, "", c.e)
	}
	for _, c := range []struct {
		a    string
		base int
		want string
		e    api.Errno
	}{{"-Ff", 16, "-255", 0}, {"-000", 2, "0", 0}, {"zZ", 36, "1295", 0}, {"", 1, "", api.ErrRange}, {"", 2, "", api.ErrSyntax}, {"-", 2, "", api.ErrSyntax}, {" 1", 10, "", api.ErrSyntax}, {"+1", 10, "", api.ErrSyntax}, {"2", 2, "", api.ErrSyntax}, {"0x1", 16, "", api.ErrSyntax}, {nines(601), 10, "", api.ErrLimit}, {nines(601) + "a", 10, "", api.ErrSyntax}} {
		s, e := Read(c.a, c.base)
		is(t, "Read "+c.a[:min(9, len(c.a))], s, e, c.want, c.e)
	}
	for _, n := range []int{0, 1, -1, 1<<63 - 1, -1 << 63} {
		if got, e := Int(" " + Of(n)); got != n || e != 0 {
			t.Errorf("Int(Of(%d)) = %d, %d", n, got, e)
		}
	}
	for s, want := range map[string]api.Errno{"9223372036854775808": api.ErrRange, "-9223372036854775809": api.ErrRange, nines(601): api.ErrRange, "": api.ErrSyntax, "0x10000000000000000": api.ErrRange} {
		if n, e := Int(s); n != 0 || e != want {
			t.Errorf("Int(%.20s) = %d, %d", s, n, e)
		}
	}
}
