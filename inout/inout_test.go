package inout

import (
	"fmt"
	"slices"
	"strings"
	"testing"

	"threadbare/api"
)

// does evaluates scripts, each in a new machine with and without faces, and compares what it tells: the code, if it is not 0, and the text.
func does(t *testing.T, cases map[string]string) {
	t.Helper()
	for script, want := range cases {
		for _, on := range []bool{true, false} {
			x := New()
			x.Faces(on)
			if got := told(x.Eval(script, 20000)); got != want {
				t.Errorf("%.90q: %.90q, not %.90q", script, got, want)
			}
		}
	}
}

func told(o api.Outcome) string {
	switch {
	case o.Code == api.COk:
		return o.Text
	case o.Code == api.CReturn:
		return fmt.Sprint(o.Code, ",", o.Then, " ", o.Text)
	}
	return fmt.Sprint(o.Code, " ", o.Text)
}

func rep(s string, n int) string { return strings.Repeat(s, n) }

// 30.1: channels
func TestChannels(t *testing.T) {
	p := "lassign [pair] a b; "
	does(t, map[string]string{
		"puts hi": "", "puts a b c d": "1 words: puts", "puts": "1 words: puts", "puts a b c": "1 words: puts", "puts no x": "1 channel: no", "puts stdin x": "1 write: stdin", "puts -nonewline x": "", "puts -nonewline stderr x": "", "puts -nonewline stdin x": "1 write: stdin", "gets stdout": "1 read: stdout", "gets no": "1 channel: no", "read stderr": "1 read: stderr", "read stdin x": "1 number: x", "read no x": "1 channel: no", "gets stdin": "", "gets stdin x": "-1", "set x 1; gets stdin x; set x": "", "gets stdin a::b": "1 namespace: ::a", "eof stdin": "0", "blocked stdin": "0", "gets stdin; blocked stdin": "1", "list [eof stdout] [blocked stderr]": "0 0", "eof no": "1 channel: no", "flush stdout": "", "flush stdin": "1 write: stdin", "close stdin": "1 channel: stdin", "close stdout": "1 channel: stdout", "close no": "1 channel: no", "seek stdin 0": "1 seek: stdin", "seek stdin x": "1 seek: stdin", "tell no": "1 channel: no", "channels": "stderr stdin stdout", "channels *out": "stdout", "gets": "1 words: gets",
		"pair": "pipe1 pipe2", "pair; pair; channels pipe*": "pipe1 pipe2 pipe3 pipe4", p + "puts $a hello; list [gets $b] [blocked $b]": "{} 1", p + "puts $a hello; flush $a; list [gets $b] [gets $b x] [blocked $b] [eof $b]": "hello -1 1 0", p + "puts $a one; puts -nonewline $a two; close $a; list [gets $b x] $x [gets $b x] $x [eof $b] [gets $b x] [blocked $b] [channels pipe*]": "3 one 3 two 1 -1 0 pipe2", p + "puts $b x; flush $b; read $a": "x\n", p + "puts $a abc; flush $a; list [read $b 2] [read $b 9] [blocked $b]": "ab {c\n} 1", p + "close $b; puts $a x; flush $a; close $a": "", p + "configure $a": "-buffering full -buffersize 4096 -in auto -out lf", "configure stdout -buffering": "line", "configure stderr -buffering": "none", p + "configure $a -buffering none -out crlf; puts $a x; configure $b -in lf; string length [read $b]": "3", p + "configure $a -buffering x": "1 value: x", p + "configure $a -x": "1 option: -x", p + "catch {configure $a -buffersize 7 -x 1}; configure $a -buffersize": "7", p + "configure $a -in lf -out": "1 words: configure", p + "configure $a -buffersize 0": "1 value: 0", "configure no": "1 channel: no", "configure no a b c": "1 words: configure",
		p + "lay $a hex; lay $b hex; puts $a hi; flush $a; gets $b": "hi", p + "lay $a rot; puts $a hi; flush $a; gets $b": "uv", p + "lay $a x": "1 filter: x", p + "lift $a": "1 filter: pipe1", p + "lay $a rot; lift $a": "", "lay no x": "1 channel: no", p + "lay $b hex; puts $a xyz; flush $a": "1 broken: pipe1", p + "lay $b hex; puts $a xyz; list [catch {close $a} m] $m [channels pipe*]": "1 {broken: pipe1} pipe2", p + "lay $b hex; configure $a -buffering none; puts $a xyz": "", p + "puts $a abcdef; flush $a; list [copy $b $a 3] [copy $b stderr]": "3 4", p + "copy $a $a": "1 channel: pipe1", "copy stdin stdin": "1 channel: stdin", "copy stdout stdin": "1 read: stdout", "copy stdin no": "1 channel: no", "copy stdin stdout x": "1 number: x", p + "copy $a stdin": "1 write: stdin", p + "copy $a no x": "1 channel: no",
	})
	x := New()
	x.Eval("puts hello; puts -nonewline part; puts stderr err; puts -nonewline stderr more", 100)
	if s := Out(x, "stdout"); s != "hello\n" {
		t.Errorf("stdout: %q", s)
	}
	if s := Out(x, "stderr"); s != "err\nmore" {
		t.Errorf("stderr: %q", s)
	}
	x.Eval("flush stdout", 100)
	if Out(x, "stdout") != "part" || Out(x, "stdout") != "" || Out(x, "stdin") != "" || Out(x, "no") != "" {
		t.Error("Out")
	}
	x.Eval("set f [open /f w]; lassign [pair] a b; lassign [pair] c d; close $c", 100)
	for _, c := range []struct {
		channel, raw string
		e            api.Errno
	}{{"no", "", api.ErrName}, {"file1", "", api.ErrKind}, {"stdout", "", api.ErrKind}, {"stderr", "", api.ErrKind}, {"stdin", rep("x", 2000001), api.ErrLimit}, {"stdin", "one\r\ntwo\r", 0}, {"pipe2", "xyz\n", 0}, {"pipe5", "", api.ErrState}, {"pipe5", rep("x", 2000001), api.ErrState}} {
		if e := Feed(x, c.channel, c.raw); e != c.e {
			t.Errorf("Feed(%s, %.9q) = %d", c.channel, c.raw, e)
		}
	}
	if got := told(x.Eval("list [gets stdin] [gets stdin] [blocked stdin] [gets pipe2]", 100)); got != "one {} 1 xyz" {
		t.Errorf("fed: %q", got)
	}
	for channel, e := range map[string]api.Errno{"no": api.ErrName, "file1": api.ErrKind, "stdout": api.ErrKind, "stdin": 0, "pipe5": api.ErrState} {
		if got := End(x, channel); got != e {
			t.Errorf("End(%s) = %d", channel, got)
		}
	}
	if End(x, "stdin") != api.ErrState || Feed(x, "stdin", "x") != api.ErrState {
		t.Error("a channel that is closed")
	}
	if got := told(x.Eval("list [gets stdin] [eof stdin] [gets stdin x] [eof stdin]", 100)); got != "two 0 -1 1" {
		t.Errorf("the end: %q", got)
	}
	x.Eval("lay pipe2 hex", 100)
	if Feed(x, "pipe2", "q") != api.ErrKind || Feed(x, "pipe2", "41") != api.ErrKind {
		t.Error("a broken channel")
	}
	long := New()
	Feed(long, "stdin", rep("x", 70000)+"\nnext\n")
	if told(long.Eval("gets stdin", 5)) != "1 long" || told(long.Eval("gets stdin", 5)) != "next" {
		t.Error("a line that is too long")
	}
	Feed(long, "stdin", rep("x", 70000))
	if got := told(long.Eval("list [string length [read stdin]] [string length [read stdin]]", 50)); got != "65536 4464" {
		t.Errorf("read of all: %s", got)
	}
	if Feed(nil, "stdin", "") != api.ErrName || End(nil, "stdin") != api.ErrName || Out(nil, "stdout") != "" || Tell(nil) != nil {
		t.Error("a nil machine")
	}
}

// 30.1: Feed's errors in their order, whatever broke and closed the channel.
func TestFeedOfBroken(t *testing.T) {
	long := rep("0", 2000001)
	pair := "lassign [pair] a b; "
	for _, c := range []struct {
		script, channel, raw string
		end                  bool
		fed, ended           api.Errno
	}{
		{"lay stdin hex", "stdin", "z", false, api.ErrKind, api.OK},
		{"lay stdin hex", "stdin", "z", true, api.ErrKind, api.ErrState},
		{"lay stdin rot; lay stdin hex", "stdin", "4z", true, api.ErrKind, api.ErrState},
		{"interp create -safe c; interp eval c {lay stdin hex}", "stdin", "z", true, api.ErrKind, api.ErrState},
		{pair + "lay $b hex", "pipe2", "z", false, api.ErrKind, api.OK},
		{pair + "lay $b hex", "pipe2", "z", true, api.ErrKind, api.ErrState},
		{pair + "lay $b hex; puts $a z; catch {flush $a}", "pipe2", "", false, api.ErrKind, api.OK},
		{pair + "lay $b hex; puts $a z; catch {flush $a}", "pipe2", "", true, api.ErrKind, api.ErrState},
		{pair + "lay $b hex; puts $a z; catch {close $a}", "pipe2", "", false, api.ErrKind, api.ErrState},
		{"lay stdin hex", "stdin", "4", true, api.ErrState, api.ErrState},
		{pair + "lay $b hex; puts $a 41; close $a", "pipe2", "", false, api.ErrKind, api.ErrState},
		{pair + "close $a", "pipe2", "", false, api.ErrState, api.ErrState},
	} {
		x := New()
		x.Eval(c.script, 100)
		Feed(x, c.channel, c.raw)
		if c.end {
			End(x, c.channel)
		}
		for _, raw := range []string{"", "z", "00", long} {
			if e := Feed(x, c.channel, raw); e != c.fed {
				t.Errorf("%s, %q, %v: Feed of %d bytes: %d, not %d", c.script, c.raw, c.end, len(raw), e, c.fed)
			}
		}
		if e := End(x, c.channel); e != c.ended {
			t.Errorf("%s, %q, %v: End: %d, not %d", c.script, c.raw, c.end, e, c.ended)
		}
	}
	x := New()
	x.Eval("lay stdin hex", 10)
	if Feed(x, "stdin", rep("z", 2000001)) != api.ErrLimit || Feed(x, "stdin", "41") != api.OK {
		t.Error("what is too long does not come in, and breaks nothing")
	}
	if Feed(x, "stdin", "42z") != api.ErrKind || told(x.Eval("lift stdin; read stdin", 10)) != "AB" || Feed(x, "stdin", "") != api.ErrKind {
		t.Error("a broken channel keeps what came in, and stays broken without its filter")
	}
}

// 30.1: files
func TestFiles(t *testing.T) {
	long := rep("x", 61)
	does(t, map[string]string{
		"set f [open /a w]; puts $f hi; close $f; file get /a": "hi\n", "open /a": "1 file: /a", "open /a x": "1 option: x", "open /no/a w": "1 file: /no/a", "open / w": "1 file: /", "open /" + long + " w": "1 file: long", "open a\\0b": "1 file: a\x00b", "open /a w": "file1", "pair; open /a w": "file3", "set f [open a w]; puts -nonewline $f {x\\ny\\n}; gets $f": "1 read: file1", "file put /a x; set f [open /a]; puts $f x": "1 write: file1", "file put /a x; set f [open /a]; flush $f": "1 write: file1",
		"file put /a \"one\\r\\ntwo\"; set f [open /a]; list [gets $f] [tell $f] [gets $f x] $x [eof $f] [gets $f x] [eof $f] [blocked $f]": "one 5 3 two 1 -1 1 0", "file put /a abcdef; set f [open /a]; list [read $f 2] [eof $f] [read $f] [eof $f]": "ab 0 cdef 1", "file put /a abcdef; set f [open /a]; list [read $f 6] [eof $f] [read $f 1] [eof $f]": "abcdef 0 {} 1", "file put /a abcdef; set f [open /a r+]; seek $f 2; puts -nonewline $f XY; list [tell $f] [file get /a] [read $f]": "4 abXYef ef", "set f [open /a w+]; puts $f abc; list [seek $f 1] [read $f]": "1 {bc\n}", "set f [open /a a]; puts -nonewline $f x; flush $f; file put /a 123; puts -nonewline $f y; close $f; file get /a": "123y", "set f [open /a w]; puts $f hi; file get /a": "", "set f [open /a w]; configure $f -buffering none -out crlf; puts $f hi; file size /a": "4", "set f [open /a w]; seek $f -1": "1 range: -1", "set f [open /a w]; seek $f x": "1 number: x", "set f [open /a w]; seek $f 1000001": "1 range: 1000001", "set f [open /a w]; lay $f rot": "1 filter: rot", "set f [open /a w]; lift $f": "1 filter: file1", "file put /a abc; set f [open /a]; set g [open /b w]; list [copy $f $g] [close $g] [file get /b] [eof $f]": "3 {} abc 1", "file put /a [string repeat x 600]; set f [open /a]; foreach i {1 2 3} {append s [string length [read $f 250]],}; set s": "250,250,100,", "set s [string repeat x 3000]; file put /a $s\\n$s; set f [open /a]; list [string length [gets $f]] [string length [gets $f]]": "3000 3000",
		"for {set i 0} {$i < 51} {incr i} {open /a w}": "1 file: long", "for {set i 0} {$i < 201} {incr i} {file put /$i {}}": "1 file: long", "set s [string repeat x 65536]; for {set i 0} {$i < 15} {incr i} {file put /$i $s}; set f [open /z w]; configure $f -buffersize 100000; puts -nonewline $f $s; list [catch {flush $f} m] $m [file size /z] [catch {flush $f}]": "1 {file: long} 0 0", "set s [string repeat x 65536]; for {set i 0} {$i < 15} {incr i} {file put /$i $s}; set f [open /z w]; puts $f $s": "1 file: long",
		"file": "1 words: file", "file x": "1 option: x", "file exists": "1 words: file", "file mkdir /a/b c; file put /a/f x; list [file exists /a] [file isfile /a] [file isfolder /a] [file isfile /a/f] [file isfolder /a/f] [file exists /no] [file list /a] [file list /]": "1 0 1 1 0 0 {b f} {a c}", "file exists /" + long: "1 file: long", "file exists a\\0": "1 file: a\x00", "file size /no": "1 file: /no", "file size /": "1 file: /", "file delete /": "1 file: /", "file delete /no": "", "file mkdir /a/b; file delete /a; file exists /a": "0", "file put /a x; file mkdir /a": "1 file: /a", "file mkdir": "", "file put /a x; file rename /a /b; list [file exists /a] [file get /b]": "0 x", "file rename /no /b": "1 file: /no", "file put /a x; file rename /a /no/b": "1 file: /no/b", "file rename / /b": "1 file: /b", "file mkdir /d; file copy /d /e": "1 file: /e", "file put /a x; file copy /a /b; file get /b": "x", "file rename /no /" + long: "1 file: long", "file rename /" + long + " a\\0": "1 file: long", "file get /": "1 file: /", "file put /no/a x": "1 file: /no/a", "file list /no": "1 file: /no", "file get /no": "1 file: /no",
		"file join": "", "file join a b /c d": "/c/d", "file join a/ b": "a/b", "file join / a": "/a", "file split /a//b.c": "a b.c", "file name /a/b.c": "b.c", "file parent /a/b.c": "/a", "file ending /a/b.c": ".c", "file normal ../x": "/x", "file mkdir /a; cd /a; file normal ../b/./c": "/b/c", "file normal a\\0": "1 file: a\x00", "file name [string repeat x 2000]": rep("x", 2000), "pwd": "/", "file mkdir /a/b; cd /a; cd b; pwd": "/a/b", "file mkdir /a; cd /a; cd; pwd": "/", "cd /no": "1 file: /no", "file put /a x; cd /a": "1 file: /a", "file mkdir /a; file put /a/x 1; file put /a/y 2; cd a; list [files *] [files x*] [file get y]": "{x y} x 2", "file mkdir /a; cd /a; file delete /a; list [pwd] [catch {files *} m] $m [catch {open x w} m] $m [file exists x]": "/a 1 {file: /a} 1 {file: x} 0", "files": "1 words: files", "pwd x": "1 words: pwd",
		"interp create -safe c; interp hidden c": "cd file files open", "interp create -safe c; interp eval c {open /a w}": "1 command: open", "interp create -safe c; interp eval c {file get /a}": "1 command: file", "interp create c; interp eval c {file put /a x}; file exists /a": "0", "interp create c; pair; interp eval c {list [pair] [channels]}": "{pipe1 pipe2} {pipe1 pipe2 stderr stdin stdout}", "interp create -safe c; pair; interp eval c channels": "stderr stdin stdout", "interp create -safe c; interp invokehidden c file put /a x; list [file exists /a] [interp invokehidden c file get /a]": "0 x",
	})
	x := New()
	x.Eval("interp create -safe c; interp eval c {puts from}; interp create d; interp eval d {puts lost}; file put /b 2; file put /a 1; file mkdir /z; set f [open /c w]; puts $f pending", 100)
	if s := Out(x, "stdout"); s != "from\n" {
		t.Errorf("stdout: %q", s)
	}
	if l := Tell(x); !slices.Equal(l, []string{"/a", "1", "/b", "2", "/c", ""}) {
		t.Errorf("Tell = %q", l)
	}
	Feed(x, "stdin", "line\n")
	if told(x.Eval("interp eval c {gets stdin}", 10)) != "line" {
		t.Error("a safe child's stdin")
	}
	big := New()
	if got := told(big.Eval("set s [string repeat x 65536]; for {set i 0} {$i < 31} {incr i} {puts -nonewline $s}", 100)); got != "1 file: long" {
		t.Errorf("stdout is full: %s", got)
	}
	want := strings.Fields("blocked cd channels close configure copy eof file files flush gets lay lift open pair puts pwd read seek tell")
	if !slices.Equal(Commands(), want) || len(New().Commands("*")) != 84+len(want) {
		t.Errorf("Commands = %q", Commands())
	}
}
