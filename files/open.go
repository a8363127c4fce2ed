package files

import (
	"threadbare/api"
)

const maxHandles = 50

// mode is how a file is opened: what may be done with it, and whether it is made if it is not there, or made empty; end, if all is written at the end.
type mode struct {
	reads, writes bool
	makes, empty  bool
	end           bool
}

func modes() map[string]mode {
	return map[string]mode{
		"r":  {reads: true},
		"r+": {reads: true, writes: true},
		"w":  {writes: true, makes: true, empty: true},
		"w+": {reads: true, writes: true, makes: true, empty: true},
		"a":  {writes: true, makes: true, end: true},
		"a+": {reads: true, writes: true, makes: true, end: true},
	}
}

// piece is bytes that are pending, for a place.
type piece struct {
	at    int
	bytes string
}

// handle is an open file with a place.
type handle struct {
	*file
	mode
	place   int
	pending []piece
	more    int // bytes that are pending
	far     int // where the farthest piece ends
}

// Open opens a file.
func (s *Store) Open(path, name string) (int, api.Errno) {
	l, e := s.parts(path)
	if e != api.OK {
		return 0, e
	}
	m, ok := modes()[name]
	if !ok {
		return 0, api.ErrName
	}
	folderOf, e := s.way(l)
	if e != api.OK {
		return 0, e
	}
	n, there := s.find(l)
	f, ok := n.(*file)
	switch {
	case there && !ok:
		return 0, api.ErrKind
	case !there && !m.makes:
		return 0, api.ErrNone
	case tooLong(l):
		return 0, api.ErrLong
	case len(s.handles) >= maxHandles || !there && !s.room(1, 0):
		return 0, api.ErrLimit
	}
	if !there {
		f = &file{there: true}
		folderOf.entries[l[len(l)-1]] = f
	}
	if m.empty {
		f.bytes = nil
	}
	s.last++
	s.handles[s.last] = &handle{file: f, mode: m}
	return s.last, api.OK
}

func (s *Store) handle(h int) (*handle, api.Errno) {
	if s == nil {
		return nil, api.ErrInvalid
	}
	x, ok := s.handles[h]
	if !ok {
		return nil, api.ErrState
	}
	return x, api.OK
}

// length is how long the file would be with all that is pending, and more bytes for a place.
func (x *handle) length(place, more int) int {
	if x.end {
		return len(x.bytes) + x.more + more
	}
	return max(len(x.bytes), x.far, place+more)
}

// Write writes.
func (s *Store) Write(h int, bytes string) api.Errno {
	x, e := s.handle(h)
	switch {
	case e != api.OK:
		return e
	case !x.writes:
		return api.ErrState
	case bytes == "":
		return api.OK
	}
	place := x.place
	if x.end && len(x.pending) == 0 {
		place = len(x.bytes)
	}
	if x.length(place, len(bytes)) > api.MaxBytes {
		return api.ErrLimit
	}
	x.pending = append(x.pending, piece{place, bytes})
	x.place = place + len(bytes)
	x.more, x.far = x.more+len(bytes), max(x.far, x.place)
	return api.OK
}

// settle lets what is pending be in the file.
func (s *Store) settle(x *handle) api.Errno {
	if len(x.pending) == 0 {
		return api.OK
	}
	pending, length := x.pending, x.length(0, 0)
	x.pending, x.more, x.far = nil, 0, 0
	if x.there && !s.room(0, length-len(x.bytes)) {
		return api.ErrLimit
	}
	for _, p := range pending {
		at := p.at
		if x.end {
			at = len(x.bytes)
		}
		if more := at + len(p.bytes) - len(x.bytes); more > 0 {
			x.bytes = append(x.bytes, make([]byte, more)...)
		}
		copy(x.bytes[at:], p.bytes)
	}
	if x.end {
		x.place = len(x.bytes)
	}
	return api.OK
}

// Read returns at most n bytes from the place.
func (s *Store) Read(h, n int) (string, api.Errno) {
	x, e := s.handle(h)
	switch {
	case e != api.OK:
		return "", e
	case !x.reads:
		return "", api.ErrState
	}
	if e := s.settle(x); e != api.OK {
		return "", e
	}
	from := min(x.place, len(x.bytes))
	end := len(x.bytes)
	if n >= 0 && n < end-from {
		end = from + n
	}
	x.place += end - from
	return string(x.bytes[from:end]), api.OK
}

// Seek goes to a place.
func (s *Store) Seek(h, n int, from string) (int, api.Errno) {
	x, e := s.handle(h)
	if e != api.OK {
		return 0, e
	}
	if from != "start" && from != "here" && from != "end" {
		return 0, api.ErrName
	}
	if e := s.settle(x); e != api.OK {
		return 0, e
	}
	base := 0
	switch from {
	case "here":
		base = x.place
	case "end":
		base = len(x.bytes)
	}
	if n < -base || n > api.MaxBytes-base {
		return 0, api.ErrRange
	}
	x.place = base + n
	return x.place, api.OK
}

// Tell returns the place.
func (s *Store) Tell(h int) (int, api.Errno) {
	x, e := s.handle(h)
	if e != api.OK {
		return 0, e
	}
	return x.place, api.OK
}

// Flush lets what is pending be in the file.
func (s *Store) Flush(h int) api.Errno {
	x, e := s.handle(h)
	if e != api.OK {
		return e
	}
	return s.settle(x)
}

// CloseFile flushes, and the handle is gone.
func (s *Store) CloseFile(h int) api.Errno {
	x, e := s.handle(h)
	if e != api.OK {
		return e
	}
	delete(s.handles, h)
	return s.settle(x)
}

// Crash closes all handles without flushing.
func (s *Store) Crash() {
	if s != nil {
		clear(s.handles)
	}
}
