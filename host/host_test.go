package host

import (
	"fmt"
	"slices"
	"strings"
	"testing"

	"threadbare/api"
)

func script(n int, text string) api.Event { return api.Event{Kind: api.EScript, Text: text, N: n} }

func feed(name, text string) api.Event { return api.Event{Kind: api.EFeed, Name: name, Text: text} }

func end(name string) api.Event { return api.Event{Kind: api.EClose, Name: name} }

func pass(n int) api.Event { return api.Event{Kind: api.ETime, N: n} }

func done(h *Host, e api.Event) string {
	o, out, err, n := h.Do(e)
	return fmt.Sprintf("%d %q %q %q %d", o.Code, o.Text, out, err, n)
}

func want(t *testing.T, name string, got, want any) {
	t.Helper()
	if fmt.Sprint(got) != fmt.Sprint(want) {
		t.Errorf("%s: %.300v, not %.300v", name, got, want)
	}
}

// 33.1
func TestSession(t *testing.T) {
	h := New()
	for _, c := range []struct {
		e    api.Event
		want string
	}{
		{script(100, "puts hi"), `0 "" "hi\n" "" 0`}, {script(100, "puts -nonewline a; puts stderr b; set x 5"), `0 "5" "" "b\n" 0`}, {script(5, "while 1 {incr n}"), `5 "steps" "" "" 0`}, {script(100, "puts c; error no"), `1 "no" "ac\n" "" 0`}, {script(100, "return q"), `2 "q" "" "" 0`}, {script(100, "event stdin readable {if {[gets stdin l] >= 0} {puts <$l>} elseif {[eof stdin]} {puts end; event stdin readable {}}}"), `0 "event"`},
		{feed("stdin", "one\ntwo\nth"), `0 "" "<one>\n<two>\n" "" 0`}, {feed("stdin", ""), `0 "" "" "" 0`}, {end("stdin"), `0 "" "<th>\nend\n" "" 0`}, {feed("stdin", "x"), `0 "" "" "" 9`}, {feed("no", "x"), `0 "" "" "" 5`}, {feed("stdout", "x"), `0 "" "" "" 11`}, {end("stdin"), `0 "" "" "" 9`}, {end("no"), `0 "" "" "" 5`},
		{script(100, "after 10 {puts ten}; after 20 {puts twenty}"), `0 "after2" "" "" 0`}, {pass(15), `0 "" "ten\n" "" 0`}, {pass(0), `0 "" "" "" 0`}, {pass(1000000000), `0 "" "twenty\n" "" 0`}, {pass(-1), `0 "" "" "" 1`}, {api.Event{}, `0 "" "" "" 1`}, {script(-1, ""), `0 "" "" "" 1`}, {script(100, "after 0 {while 1 {}}"), `0 "after3" "" "" 0`}, {pass(0), `5 "steps" "" "" 0`}, {script(100, "lassign [pair] a b; lay $b hex"), `0 "" "" "" 0`}, {feed("pipe2", "zz"), `0 "" "" "" 0`}, {feed("pipe2", "41"), `0 "" "" "" 0`},
	} {
		got := done(h, c.e)
		if c.e.Kind == api.EScript && strings.HasPrefix(c.e.Text, "event") {
			c.want, got = "", ""
		}
		want(t, fmt.Sprint("Do of ", c.e), got, c.want)
	}
	want(t, "Count", h.Count(), 18)
	want(t, "Now", h.Now(), 1000000015)
	want(t, "Dump", strings.Contains(h.Dump(), "x {s 5}"), true)
	h.Do(script(100, "file put /b 2; file put /a 1"))
	want(t, "Files", h.Files(), "[/a 1 /b 2]")
	want(t, "Commands", len(h.Commands()) == 112 && slices.IsSorted(h.Commands()), true)
	o, out, _, n := h.Line("script 100 puts%20line")
	want(t, "Line", fmt.Sprintf("%d %q %d", o.Code, out, n), `0 "line\n" 0`)
	_, _, _, n = h.Line("script 100 puts line")
	want(t, "Line of none", n, api.ErrCommand)
	_, _, _, n = h.Line("feed no x")
	want(t, "Line that is refused", n, api.ErrName)
	for range api.MaxLines - h.Count() {
		h.Do(script(1, ""))
	}
	want(t, "Do beyond MaxLines", done(h, script(1, "")), `0 "" "" "" 4`)
	want(t, "Do of what is not valid", done(h, script(-1, "")), `0 "" "" "" 1`)
	var none *Host
	none.Forget()
	none.Faces(true)
	want(t, "a nil host", fmt.Sprint(none.Dump(), none.Files(), none.Now(), none.Commands(), none.Book(), none.Count()), "[] 0 []0")
	want(t, "Do of a nil host", done(none, api.Event{}), `0 "" "" "" 9`)
	_, _, _, n = none.Line("x")
	want(t, "Line of a nil host", n, api.ErrCommand)
	_, _, _, n = (&Host{}).Line("time 0")
	want(t, "Line of a zero host", n, api.ErrState)
}

// 33.1: what breaks a channel, or is fed to a broken one, also to one that is closed, is no refusal: turns are done.
func TestFeedOfBroken(t *testing.T) {
	h := New()
	for _, c := range []struct {
		e    api.Event
		want string
	}{
		{script(100, "lay stdin hex; event stdin readable {append log <[read stdin]>}"), `0 "append log <[read stdin]>" "" "" 0`},
		{feed("stdin", "410Az"), `0 "" "" "" 0`}, {feed("stdin", "42"), `0 "" "" "" 0`}, {script(100, "after 0 {puts due}"), `0 "after1" "" "" 0`}, {feed("stdin", ""), `0 "" "due\n" "" 0`}, {end("stdin"), `0 "" "" "" 0`}, {end("stdin"), `0 "" "" "" 9`},
		{script(100, "after 0 {puts more}; set log"), `0 "<A\n><>" "" "" 0`}, {feed("stdin", ""), `0 "" "more\n" "" 0`}, {feed("stdin", "43"), `0 "" "" "" 0`},
		{script(100, "lassign [pair] a b; lay $b hex; puts $a z; catch {close $a}"), `0 "1" "" "" 0`}, {feed("pipe2", "44"), `0 "" "" "" 0`}, {end("pipe2"), `0 "" "" "" 9`},
		{script(100, "lassign [pair] a b; close $a"), `0 "" "" "" 0`}, {feed("pipe4", "44"), `0 "" "" "" 9`}, {script(100, "set log"), `0 "<A\n><><><><>" "" "" 0`},
	} {
		want(t, fmt.Sprint("Do of ", c.e), done(h, c.e), c.want)
	}
	want(t, "Count", h.Count(), 13)
	again, events, e := Replay(h.Book())
	want(t, "Replay", fmt.Sprint(events, e), "13 0")
	want(t, "the session again", state(again), state(h))
}

// 33.3
func TestLines(t *testing.T) {
	long := strings.Repeat("x", api.MaxText)
	for line, e := range map[string]api.Event{
		"script 100 puts%20hi": script(100, "puts hi"), "script 0 -": script(0, ""), "script 5 %2D": script(5, "-"), "feed stdin a%0Ab": feed("stdin", "a\nb"), "feed - -": {}, "feed %2D -": feed("-", ""), "close a%20b": end("a b"), "close -": {}, "time 5": pass(5), "time 1000000000": pass(1000000000), "script 100000 " + long: script(100000, long),
	} {
		if e.Kind == 0 {
			if got, n := Read(line); got != (api.Event{}) || n != api.ErrSyntax {
				t.Errorf("Read(%.20q) = %v, %d", line, got, n)
			}
			continue
		}
		got, n := Write(e)
		back, n2 := Read(line)
		if got != line || n != 0 || back != e || n2 != 0 || !Valid(e) {
			t.Errorf("%.20q: %.20q, %d, %v, %d", line, got, n, back, n2)
		}
	}
	for _, e := range []api.Event{{}, {Kind: 5}, {Kind: -1}, script(100001, ""), script(-1, ""), script(0, long+"x"), {Kind: api.EScript, Name: "x"}, feed("", "x"), feed("x", long+"x"), {Kind: api.EFeed, Name: "x", N: 1}, end(""), {Kind: api.EClose, Name: "x", Text: "y"}, {Kind: api.EClose, Name: "x", N: 1}, pass(-1), pass(1000000001), {Kind: api.ETime, Name: "x"}, {Kind: api.ETime, Text: "x"}} {
		if s, n := Write(e); Valid(e) || s != "" || n != api.ErrInvalid {
			t.Errorf("Write(%.20v) = %q, %d", e, s, n)
		}
	}
	for _, line := range []string{"", "x", "script", "script 5", "script 05 x", "script +5 x", "script 5 x y", "script 5  x", "script 5 x ", " script 5 x", "script 5 %2d", "script 5 %41", "script 5 a/b", "script 5 %", "script x y", "script 5 ", "time", "time 5 6", "time -1", "time 05", "feed x", "close", "close x y", "script 100001 x", "time 1000000001", "script 5 " + long + "x"} {
		if e, n := Read(line); e != (api.Event{}) || n != api.ErrSyntax {
			t.Errorf("Read(%.20q) = %v, %d", line, e, n)
		}
	}
}

// 33.4
func TestBook(t *testing.T) {
	h := New()
	h.Do(pass(0))
	h.Do(script(10, "set x 1"))
	book := h.Book()
	lines := strings.Split(strings.TrimSuffix(book, "\n"), "\n")
	want(t, "the first line", lines[0], fmt.Sprintf("0 %016x time 0", sumOf("0000000000000000 time 0")))
	want(t, "the second line", lines[1], fmt.Sprintf("1 %016x script 10 set%%20x%%201", sumOf(lines[0][2:18]+" script 10 set%20x%201")))
	l, torn, e := Lines(book + "2 torn")
	want(t, "Lines", fmt.Sprint(len(l), torn, e, l[1].Number, l[1].Text), "2 true 0 1script 10 set%20x%201")
	l, torn, e = Lines("")
	want(t, "Lines of nothing", fmt.Sprint(len(l), torn, e), "0 false 0")
	for _, bad := range []string{strings.Replace(book, "x%20", "y%20", 1), strings.Replace(book, "1 ", "2 ", 1), book + "\n", book + "2 x\n", book + "x\n", strings.ToUpper(book)} {
		l, torn, e := Lines(bad)
		if e != api.ErrSum || torn || len(l) > 2 {
			t.Errorf("Lines(%q) = %v, %t, %d", bad, l, torn, e)
		}
		if r, n, e := Replay(bad); r != nil || n != 0 || e != api.ErrSum {
			t.Errorf("Replay(%q)", bad)
		}
	}
	if l, _, _ := Lines(book + "x\n"); len(l) != 2 {
		t.Error("the lines before")
	}
	if _, _, e := Lines(strings.Repeat("x", 5000001)); e != api.ErrLong {
		t.Error("a long book")
	}
	full, sum := "", uint64(0)
	for i := range 1001 {
		sum = sumOf(fmt.Sprintf("%016x time 0", sum))
		full += fmt.Sprintf("%d %016x time 0\n", i, sum)
		if i == 999 {
			if l, _, e := Lines(full); len(l) != 1000 || e != 0 {
				t.Error("a full book")
			}
		}
	}
	if l, _, e := Lines(full); l != nil || e != api.ErrLimit {
		t.Error("a book that is too full")
	}
	refused := fmt.Sprintf("0 %016x feed no x\n", sumOf("0000000000000000 feed no x"))
	if r, n, e := Replay(refused); r != nil || n != 0 || e != api.ErrSum {
		t.Errorf("Replay of what is refused: %d, %d", n, e)
	}
	h2 := New()
	h2.Do(pass(0))
	h2.Do(script(10, "set x 2"))
	for _, c := range []struct {
		a, b string
		same int
		e    api.Errno
	}{{book, h2.Book(), 1, 0}, {book, book, 2, 0}, {book, "", 0, 0}, {"x\n", strings.Repeat("x", 5000001), 0, api.ErrSum}, {book, strings.Repeat("x", 5000001), 0, api.ErrLong}, {book, book + "torn", 2, 0}} {
		if n, e := Parting(c.a, c.b); n != c.same || e != c.e {
			t.Errorf("Parting = %d, %d", n, e)
		}
	}
	replies, out, e := Play([]api.Event{script(10, "puts a"), script(10, "error b"), script(10, "puts c")})
	want(t, "Play", fmt.Sprintf("%v %q %d", replies, out, e), `[{0 0 } {1 0 b} {0 0 }] "a\nc\n" 0`)
	replies, out, e = Play([]api.Event{script(10, "puts a"), feed("no", ""), {}})
	want(t, "Play of what is refused", fmt.Sprintf("%v %q %d", replies, out, e), `[] "" 5`)
}

func sumOf(s string) uint64 {
	h := uint64(14695981039346656037)
	for i := range len(s) {
		h = (h ^ uint64(s[i])) * 1099511628211
	}
	return h
}

func events() []api.Event {
	return []api.Event{
		script(1000, "proc f {a {b 2} args} {list $a $b $args}; set x [f 1]"), script(1000, "namespace eval n {variable v 1; proc g {} {variable v; incr v}; namespace export g}; namespace import n::g; g; g"), script(1000, "trace add variable y write {lappend log}; set y 1; incr y"), script(1000, "interp create -safe c; interp alias c out {} puts; interp eval c {out nested; set q 1}"), script(1000, "class create a {{field n} {constructor {} {set n 0}} {method up {} {incr n}}}; a create o; o up; o up"), script(1000, "event stdin readable {lappend got [gets stdin]}; after 50 {puts late; error bg}"), feed("stdin", "l1\r\nl2\nl"), pass(70), feed("stdin", "3\n"), script(1000, "package require csv; csv::fields a,b"), script(1000, "file mkdir /d; cd d; set f [open x w]; puts $f text; flush $f; puts $f more"), script(30, "while 1 {incr w}"), script(1000, "list [bgerrors] [expr {2 ** 100}] [regexp -inline {(a)(b)} xab] [dict create k v]"), end("stdin"), script(1000, "rename set assign; assign z 1; catch {set z}"),
	}
}

func state(h *Host) string {
	return fmt.Sprintf("%q %q %d %q %q", h.Dump(), h.Files(), h.Now(), h.Commands(), h.Book())
}

// P33.3, P33.4: every beginning of the book makes the session again, whatever is forgotten
func TestReplay(t *testing.T) {
	var states []string
	h, forgetful := New(), New()
	for i, e := range events() {
		states = append(states, state(h))
		got := done(h, e)
		if i%2 == 0 {
			forgetful.Forget()
		}
		forgetful.Faces(i%3 == 0)
		if other := done(forgetful, e); other != got {
			t.Errorf("without faces %v tells %s, not %s", e, other, got)
		}
		want(t, fmt.Sprint("refused? ", e), strings.HasSuffix(got, " 0"), true)
	}
	states = append(states, state(h))
	if state(h) != state(forgetful) {
		t.Error("without faces the state is another one")
	}
	book := h.Book()
	for cut := 0; cut <= len(book); cut += 97 {
		n := strings.Count(book[:cut], "\n")
		r, count, e := Replay(book[:cut])
		if e != 0 || count != n || state(r) != states[n] {
			t.Fatalf("Replay of %d bytes: %d events, %d", cut, count, e)
		}
		if n < len(events()) {
			live := New()
			for _, e := range events()[:n] {
				live.Do(e)
			}
			if done(r, events()[n]) != done(live, events()[n]) {
				t.Errorf("the reply to the event %d", n)
			}
		}
	}
}
