package pipe

import (
	"math/rand"
	"strings"
	"testing"

	"threadbare/api"
)

func made(t *testing.T, in, out, buffering string, size int) *Pipe {
	t.Helper()
	p, e := New(in, out, buffering, size)
	if e != 0 || p == nil {
		t.Fatalf("New(%s, %s, %s, %d): %d", in, out, buffering, size, e)
	}
	return p
}

func reads(t *testing.T, p *Pipe, n int, want string, eof, blocked bool) {
	t.Helper()
	s, e := p.Read(n)
	if s != want || e != 0 || p.Eof() != eof || p.Blocked() != blocked {
		t.Errorf("Read(%d) = %q, %d, eof %t, blocked %t, not %q", n, s, e, p.Eof(), p.Blocked(), want)
	}
}

func line(t *testing.T, p *Pipe, want string, ok, eof, blocked bool) {
	t.Helper()
	s, got, e := p.Line()
	if s != want || got != ok || e != 0 || p.Eof() != eof || p.Blocked() != blocked {
		t.Errorf("Line = %q, %t, eof %t, blocked %t, not %q", s, got, p.Eof(), p.Blocked(), want)
	}
}

// 12.1, 12.2
func TestReading(t *testing.T) {
	for _, c := range []struct {
		in, out, buffering string
		size               int
		e                  api.Errno
	}{{"x", "lf", "full", 0, api.ErrName}, {"auto", "auto", "full", 1, api.ErrName}, {"lf", "lf", "", 1, api.ErrName}, {"lf", "lf", "full", 0, api.ErrRange}, {"lf", "lf", "full", 1000001, api.ErrRange}} {
		if p, e := New(c.in, c.out, c.buffering, c.size); p != nil || e != c.e {
			t.Errorf("New of %v", c)
		}
	}
	p := made(t, "auto", "lf", "full", 1000000)
	if p.Eof() || p.Blocked() || p.Ready() {
		t.Error("at first")
	}
	line(t, p, "", false, false, true)
	p.Feed("")
	if p.Blocked() {
		t.Error("Feed makes Blocked false")
	}
	p.Feed("a\r")
	if p.Waiting() != 2 || p.Ready() {
		t.Error("a 13 waits")
	}
	line(t, p, "", false, false, true)
	reads(t, p, 5, "a", false, true)
	if p.Waiting() != 1 {
		t.Error("the 13 waits still")
	}
	p.Feed("\nb\rc\n")
	if !p.Ready() {
		t.Error("Ready")
	}
	line(t, p, "", true, false, false)
	reads(t, p, 2, "b\n", false, false)
	reads(t, p, 0, "", false, false)
	reads(t, p, -1, "c\n", false, false)
	reads(t, p, -1, "", false, false)
	p.Feed("end\r")
	if p.Close() != 0 || p.Close() != api.ErrState || p.Feed("") != api.ErrState || !p.Ready() {
		t.Error("Close")
	}
	reads(t, p, 4, "end\n", false, false)
	reads(t, p, 0, "", false, false)
	reads(t, p, 1, "", true, false)
	line(t, p, "", false, true, false)
	p = made(t, "crlf", "lf", "full", 1)
	p.Feed("a\r\r\nlast\r")
	p.Close()
	line(t, p, "a\r", true, false, false)
	line(t, p, "last\r", true, true, false)
	line(t, p, "", false, true, false)
	p = made(t, "cr", "lf", "full", 1)
	p.Feed("a\rb\n")
	line(t, p, "a", true, false, false)
	line(t, p, "b", true, false, false)
	p.Feed("\r\n")
	reads(t, p, 1, "\n", false, false)
	p.Set("in", "auto")
	reads(t, p, -1, "\n", false, false)
	p.Close()
	reads(t, p, -1, "", true, false)
	p = made(t, "lf", "lf", "full", 1)
	p.Feed("a\r\nb")
	p.Close()
	line(t, p, "a\r", true, false, false)
	reads(t, p, 5, "b", true, false)
	var none *Pipe
	if none.Feed("") != api.ErrState || none.Close() != api.ErrState || none.Eof() || none.Blocked() || none.Ready() || none.Waiting() != 0 || none.Write("") != api.ErrState || none.Flush() != api.ErrState || none.Pending() != 0 || none.Out() != "" || none.Set("in", "lf") != api.ErrState || none.Lay("rot") != api.ErrState || none.Lift() != api.ErrState {
		t.Error("a nil pipe")
	}
	_, e1 := none.Read(1)
	_, _, e2 := none.Line()
	_, e3 := none.Get("in")
	if e1 != api.ErrState || e2 != api.ErrState || e3 != api.ErrState {
		t.Error("a nil pipe")
	}
}

// 12.3
func TestWriting(t *testing.T) {
	for _, c := range []struct {
		out, buffering string
		size           int
		writes         string
		out1, out2     string
	}{
		{"lf", "line", 100, "ab\nc", "ab\n", "c"}, {"lf", "line", 3, "ab\ncde", "ab\ncde", ""}, {"lf", "line", 4, "ab\nc|d\ne", "ab\ncd\n", "e"}, {"crlf", "line", 100, "a\nb", "a\r\n", "b"}, {"cr", "line", 100, "a\nb\r", "a\r", "b\r"}, {"lf", "full", 4, "a\nb", "", "a\nb"}, {"lf", "full", 4, "a\nb|c|d", "a\nbc", "d"}, {"lf", "none", 100, "a", "a", ""}, {"crlf", "full", 3, "\n\n", "\r\n\r\n", ""},
	} {
		p := made(t, "lf", c.out, c.buffering, c.size)
		for _, s := range strings.Split(c.writes, "|") {
			if p.Write(s) != 0 {
				t.Error("Write")
			}
		}
		if s := p.Out(); s != c.out1 || p.Pending() != len(c.out2) || p.Out() != "" {
			t.Errorf("%s %s %d: %q went out, %d pending", c.out, c.buffering, c.size, s, p.Pending())
		}
		p.Flush()
		if s := p.Out(); s != c.out2 || p.Pending() != 0 {
			t.Errorf("Flush: %q", s)
		}
	}
	p := made(t, "lf", "lf", "full", 100)
	p.Write("a\nb")
	p.Set("buffering", "line")
	if p.Pending() != 3 {
		t.Error("Set lets nothing go out")
	}
	p.Write("c")
	if p.Out() != "a\n" {
		t.Error("a line end that was written before")
	}
	p = made(t, "lf", "lf", "none", 1000000)
	big := strings.Repeat("x", 999999)
	if p.Write(big) != 0 || p.Write(big) != 0 || p.Write("yyy") != api.ErrLimit || p.Write("yy") != 0 || p.Write("y") != api.ErrLimit {
		t.Error("Write up to the limit")
	}
	if len(p.Out()) != 2000000 {
		t.Error("what went out")
	}
	p = made(t, "lf", "crlf", "full", 1000000)
	if p.Write(strings.Repeat("\n", 1000001)) != api.ErrLimit || p.Pending() != 0 {
		t.Error("the buffer is too long")
	}
	p = made(t, "lf", "lf", "none", 1)
	p.Lay("hex")
	if p.Write(big) != 0 || p.Write("aa") != api.ErrLimit || p.Write("a") != 0 || len(p.Out()) != 2000000 {
		t.Error("what went out counts as it comes out of the filters")
	}
}

// 12.4
func TestOptions(t *testing.T) {
	p := made(t, "auto", "crlf", "line", 7)
	for option, want := range map[string]string{"in": "auto", "out": "crlf", "buffering": "line", "size": "7"} {
		if s, e := p.Get(option); s != want || e != 0 {
			t.Errorf("Get(%s) = %q", option, s)
		}
	}
	for _, c := range []struct {
		option, value string
		e             api.Errno
	}{{"in", "cr", 0}, {"out", "auto", api.ErrName}, {"x", "lf", api.ErrName}, {"buffering", "x", api.ErrName}, {"size", "0", api.ErrRange}, {"size", "1000001", api.ErrRange}, {"size", "007", api.ErrRange}, {"size", "+7", api.ErrRange}, {"size", "", api.ErrRange}, {"size", "1000000", 0}, {"size", "99999999999999999999", api.ErrRange}} {
		if e := p.Set(c.option, c.value); e != c.e {
			t.Errorf("Set(%s, %s) = %d", c.option, c.value, e)
		}
	}
	if s, _ := p.Get("size"); s != "1000000" {
		t.Error("Get of what was set")
	}
	if _, e := p.Get("x"); e != api.ErrName {
		t.Error("Get of no option")
	}
	for _, c := range []struct {
		raw, mode string
		closed    bool
		s, rest   string
		e         api.Errno
	}{{"a\r\r\n\r", "auto", false, "a\n\n", "\r", 0}, {"a\r\r\n\r", "auto", true, "a\n\n\n", "", 0}, {"a\r\r\n\r", "crlf", false, "a\r\n", "\r", 0}, {"a\r\r\n\r", "crlf", true, "a\r\n\r", "", 0}, {"\r\n", "cr", false, "\n\n", "", 0}, {"\r\n", "lf", false, "\r\n", "", 0}, {"", "x", true, "", "", api.ErrName}} {
		if s, rest, e := In(c.raw, c.mode, c.closed); s != c.s || rest != c.rest || e != c.e {
			t.Errorf("In(%q, %s, %t) = %q, %q, %d", c.raw, c.mode, c.closed, s, rest, e)
		}
	}
	for mode, want := range map[string]string{"lf": "a\n\r", "cr": "a\r\r", "crlf": "a\r\n\r"} {
		if s, e := Outward("a\n\r", mode); s != want || e != 0 {
			t.Errorf("Outward to %s = %q", mode, s)
		}
	}
	if _, e := Outward("", "auto"); e != api.ErrName {
		t.Error("Outward of no mode")
	}
}

// 12.1, 12.4
func TestFilters(t *testing.T) {
	p := made(t, "lf", "lf", "none", 1)
	if p.Lift() != api.ErrNone || p.Lay("x") != api.ErrName || p.Lay("hex") != 0 || p.Lay("rot") != 0 {
		t.Error("Lay")
	}
	p.Write("aZ1")
	if s := p.Out(); s != "6e4d31" {
		t.Errorf("out through rot and hex: %q", s)
	}
	p.Feed("6")
	if p.Waiting() != 0 {
		t.Error("a digit waits")
	}
	p.Feed("E4d3")
	reads(t, p, -1, "aZ", false, false)
	if p.Feed("16bxx") != api.ErrKind || p.Feed("") != api.ErrKind {
		t.Error("broken")
	}
	reads(t, p, -1, "1x", false, false)
	if p.Close() != 0 {
		t.Error("Close of a broken pipe")
	}
	p = made(t, "lf", "lf", "none", 1)
	p.Lay("hex")
	p.Feed("4")
	p.Lift()
	p.Feed("a")
	reads(t, p, -1, "a", false, false)
	for range 5 {
		if p.Lay("rot") != 0 {
			t.Error("Lay of five")
		}
	}
	if p.Lay("x") != api.ErrName || p.Lay("rot") != api.ErrLimit {
		t.Error("Lay of six")
	}
	p = made(t, "lf", "lf", "full", 99)
	p.Write("a")
	p.Lay("hex")
	p.Flush()
	if p.Out() != "61" {
		t.Error("what leaves the buffer passes the filters that lie there then")
	}
	p = made(t, "lf", "lf", "none", 1)
	p.Lay("hex")
	p.Feed("6162637")
	p.Close()
	reads(t, p, -1, "abc", true, false)
}

// 12.4
func TestCarry(t *testing.T) {
	a, b := made(t, "auto", "lf", "full", 9), made(t, "lf", "crlf", "full", 9)
	a.Feed("x\r\nyz")
	if n, e := Carry(a, b, 3); n != 3 || e != 0 || b.Pending() != 4 || a.Waiting() != 1 {
		t.Errorf("Carry = %d, %d", n, e)
	}
	if n, e := Carry(a, b, -1); n != 1 || e != 0 {
		t.Error("Carry of all")
	}
	if n, e := Carry(a, b, 5); n != 0 || e != 0 || !a.Blocked() {
		t.Error("Carry of nothing")
	}
	for _, c := range [][2]*Pipe{{a, a}, {nil, a}, {a, nil}, {nil, nil}} {
		if _, e := Carry(c[0], c[1], 1); e != api.ErrState {
			t.Error("Carry of one and the same")
		}
	}
	a.Feed(strings.Repeat("\n", 1500000))
	if n, e := Carry(a, b, -1); n != 0 || e != api.ErrLimit || a.Waiting() != 1500000 || a.Blocked() {
		t.Error("a Carry that is refused")
	}
}

func pieces(r *rand.Rand, s string, each func(part string)) {
	for s != "" {
		n := 1 + r.Intn(len(s))
		each(s[:n])
		s = s[n:]
	}
}

// P12.2 to P12.5
func TestPieces(t *testing.T) {
	r := rand.New(rand.NewSource(6))
	for range 2000 {
		b := make([]byte, r.Intn(20))
		for i := range b {
			b[i] = "ab\r\n"[r.Intn(4)]
		}
		for _, mode := range []string{"lf", "cr", "crlf", "auto"} {
			want, _, _ := In(string(b), mode, true)
			p, q := made(t, mode, "lf", "full", 9), made(t, mode, "lf", "full", 9)
			got := ""
			pieces(r, string(b), func(part string) {
				p.Feed(part)
				q.Feed(part)
				s, _ := p.Read(r.Intn(4))
				got += s
			})
			p.Close()
			q.Close()
			rest, _ := p.Read(-1)
			lines := ""
			for {
				s, ok, _ := q.Line()
				if !ok {
					break
				}
				lines += s
				if !q.Eof() {
					lines += "\n"
				}
			}
			if got+rest != want || lines != want {
				t.Fatalf("%q by %s: %q, lines %q, not %q", b, mode, got+rest, lines, want)
			}
			if mode == "auto" {
				continue
			}
			want, _ = Outward(string(b), mode)
			for _, buffering := range []string{"none", "line", "full"} {
				w := made(t, mode, mode, buffering, 1+r.Intn(6))
				pieces(r, string(b), func(part string) { w.Write(part) })
				w.Flush()
				if s := w.Out(); s != want {
					t.Fatalf("%q out by %s %s: %q", b, mode, buffering, s)
				}
			}
			if mode == "lf" || !strings.Contains(string(b), "\r") {
				if s, _, _ := In(want, mode, true); s != string(b) {
					t.Fatalf("%q there and back by %s: %q", b, mode, s)
				}
			}
		}
	}
}
