package inout

import (
	"strconv"

	"threadbare/api"
	"threadbare/core"
	"threadbare/files"
	"threadbare/pipe"
)

const maxWaiting = 2000000

// channel gives and takes bytes.
type channel interface {
	// side is the pipe of its translations and its buffer.
	side() *pipe.Pipe
	reads() bool
	writes() bool
	line() (s string, ok bool, r core.Result)
	read(n int) (string, core.Result)
	// flow lets what has left the buffer go where it goes.
	flow() core.Result
	// flush lets all of the buffer go; name is what the channel is called.
	flush(name string) core.Result
	close(name string) core.Result
	eof() bool
	blocked() bool
}

// stream is a channel that is a pipe: stdin, stdout and stderr, or a side of a pair.
type stream struct {
	pipe          *pipe.Pipe
	in, out       bool
	told          bool // what leaves it is what the machine tells
	other         *stream
	ended, broken bool
}

func newStream(buffering string, in, out, told bool) *stream {
	p, _ := pipe.New("auto", "lf", buffering, 4096)
	return &stream{pipe: p, in: in, out: out, told: told}
}

func (s *stream) side() *pipe.Pipe { return s.pipe }
func (s *stream) reads() bool      { return s.in }
func (s *stream) writes() bool     { return s.out }
func (s *stream) eof() bool        { return s.pipe.Eof() }
func (s *stream) blocked() bool    { return s.pipe.Blocked() }

func (s *stream) line() (string, bool, core.Result) {
	line, ok, _ := s.pipe.Line()
	return line, ok, core.OK("")
}

func (s *stream) read(n int) (string, core.Result) {
	text, _ := s.pipe.Read(n)
	return text, core.OK("")
}

// feed lets raw bytes come in.
func (s *stream) feed(raw string) api.Errno {
	e := s.pipe.Feed(raw)
	s.broken = s.broken || e == api.ErrKind
	return e
}

func (s *stream) end() api.Errno {
	s.ended = true
	return s.pipe.Close()
}

func (s *stream) flow() core.Result {
	if s.told {
		return core.OK("")
	}
	if left := s.pipe.Out(); left != "" && s.other != nil && !s.other.ended {
		s.other.feed(left)
	}
	return core.OK("")
}

func (s *stream) flush(name string) core.Result {
	s.pipe.Flush()
	s.flow()
	if s.other != nil && s.other.broken {
		return core.Fail("broken", name)
	}
	return core.OK("")
}

func (s *stream) close(name string) core.Result {
	r := s.flush(name)
	if s.other != nil {
		if !s.other.ended {
			s.other.end()
		}
		s.other.other = nil
	}
	return r
}

// opened is a channel that is an open file of a store.
type opened struct {
	pipe   *pipe.Pipe
	store  *files.Store
	handle int
	in     bool
	out    bool
	ended  bool
}

func newOpened(store *files.Store, handle int, mode string) *opened {
	p, _ := pipe.New("auto", "lf", "full", 4096)
	plus := len(mode) > 1
	return &opened{pipe: p, store: store, handle: handle, in: plus || mode == "r", out: plus || mode != "r"}
}

func (o *opened) side() *pipe.Pipe { return o.pipe }
func (o *opened) reads() bool      { return o.in }
func (o *opened) writes() bool     { return o.out }
func (o *opened) eof() bool        { return o.ended }
func (o *opened) blocked() bool    { return false }

func fileLong() core.Result { return core.Error("file: long") }

func (o *opened) flow() core.Result {
	left := o.pipe.Out()
	if left == "" {
		return core.OK("")
	}
	if e := o.store.Write(o.handle, left); e != api.OK {
		return fileLong()
	}
	if e := o.store.Flush(o.handle); e != api.OK {
		return fileLong()
	}
	return core.OK("")
}

func (o *opened) flush(string) core.Result {
	o.pipe.Flush()
	return o.flow()
}

func (o *opened) close(name string) core.Result {
	r := o.flush(name)
	o.store.CloseFile(o.handle)
	return r
}

// take reads some bytes from the handle's place on, as from a pipe; part tells whether they were enough, otherwise more are taken.
func (o *opened) take(size int, part func(p *pipe.Pipe) bool) core.Result {
	if r := o.flush(""); !r.Good() {
		return r
	}
	place, _ := o.store.Tell(o.handle)
	in, _ := o.pipe.Get("in")
	for {
		raw, e := o.store.Read(o.handle, size)
		if e != api.OK {
			return fileLong()
		}
		p, _ := pipe.New(in, "lf", "full", 1)
		p.Feed(raw)
		all := len(raw) < size
		if all {
			p.Close()
		}
		enough := part(p)
		if enough || all {
			o.ended = p.Eof()
			o.store.Seek(o.handle, place+len(raw)-p.Waiting(), "start")
			return core.OK("")
		}
		o.store.Seek(o.handle, place, "start")
		size *= 4
	}
}

func (o *opened) line() (line string, ok bool, r core.Result) {
	r = o.take(1024, func(p *pipe.Pipe) bool {
		line, ok, _ = p.Line()
		return ok
	})
	return line, ok, r
}

func (o *opened) read(n int) (text string, r core.Result) {
	// Two raw bytes become one at most.
	r = o.take(2*n+2, func(p *pipe.Pipe) bool {
		text, _ = p.Read(n)
		return true
	})
	return text, r
}

// world is what a machine has of channels and files.
type world struct {
	*shelf
	channels map[string]channel
	count    int
	closed   []func(name string)
}

// shelf is a machine's files, and its current folder.
type shelf struct {
	store  *files.Store
	folder string
}

// worldOf returns what a machine has; a safe child has its maker's first channels.
func worldOf(x *core.Machine) *world {
	return core.State(x, "inout", func() *world {
		w := &world{shelf: &shelf{files.NewStore(), "/"}, channels: map[string]channel{}}
		if x.Safe && x.Maker != nil {
			maker := worldOf(x.Maker)
			for _, name := range []string{"stdin", "stdout", "stderr"} {
				w.channels[name] = maker.channels[name]
			}
			return w
		}
		w.channels["stdin"] = newStream("full", true, false, false)
		w.channels["stdout"] = newStream("line", false, true, true)
		w.channels["stderr"] = newStream("none", false, true, true)
		return w
	})
}

// add lays a channel under a new name.
func (w *world) add(kind string, c channel) string {
	w.count++
	name := kind + strconv.Itoa(w.count)
	w.channels[name] = c
	return name
}

// OnClose lets something be told of each channel that is closed (layer 31).
func OnClose(x *core.Machine, told func(name string)) {
	if !x.Alive() {
		return
	}
	w := worldOf(x)
	w.closed = append(w.closed, told)
}

// Ready reports whether a channel is there, whether it is readable, and, of a pipe, how many raw bytes wait.
func Ready(x *core.Machine, name string) (there, ready, file bool, waiting int) {
	if !x.Alive() {
		return false, false, false, 0
	}
	switch c := worldOf(x).channels[name].(type) {
	case *stream:
		return true, c.pipe.Ready(), false, c.pipe.Waiting()
	case *opened:
		return true, true, true, 0
	}
	return false, false, false, 0
}
