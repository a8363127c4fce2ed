package loop

import (
	"cmp"
	"iter"
	"slices"
	"strconv"

	"threadbare/api"
	"threadbare/core"
	"threadbare/inout"
	"threadbare/list"
	"threadbare/vars"
)

// waiting is a script that waits: for its time, or until nothing else is to be done.
type waiting interface {
	text() string
	called() string
}

// script is what both have.
type script struct {
	name, body string
}

func (s *script) text() string   { return s.body }
func (s *script) called() string { return s.name }

type timer struct {
	*script
	due int
}

type idle struct{ *script }

// watch is the scripts of a channel.
type watch struct{ readable, writable string }

// done is a channel script that was done in a round.
type done struct {
	channel string
	writing bool
}

// queue is a machine's time, and all that waits, in the order in which it was made.
type queue struct {
	time    int
	count   int
	list    []waiting
	watches map[string]*watch
	round   map[done]int // with how many raw bytes waiting each began
	errors  []string
}

func queueOf(x *core.Machine) *queue {
	return core.State(x, "loop", func() *queue {
		q := &queue{watches: map[string]*watch{}, round: map[done]int{}}
		inout.OnClose(x, func(name string) { delete(q.watches, name) })
		return q
	})
}

// add lets something wait that is made of its name.
func (q *queue) add(body string, made func(s *script) waiting) string {
	q.count++
	s := &script{"after" + strconv.Itoa(q.count), body}
	q.list = append(q.list, made(s))
	return s.name
}

func (q *queue) named(name string) waiting {
	i := slices.IndexFunc(q.list, func(w waiting) bool { return w.called() == name })
	if i < 0 {
		return nil
	}
	return q.list[i]
}

// remove takes away what is called so, if it is there.
func (q *queue) remove(name string) {
	if i := slices.IndexFunc(q.list, func(w waiting) bool { return w.called() == name }); i >= 0 {
		q.list = slices.Delete(q.list, i, i+1)
	}
}

// earliest returns the first element that none is ahead of; false if there are none.
func earliest[T any](l iter.Seq[T], compare func(a, b T) int) (r T, ok bool) {
	for x := range l {
		if !ok || compare(x, r) < 0 {
			r, ok = x, true
		}
	}
	return r, ok
}

// timers gives the timers, in the order in which they were made.
func (q *queue) timers(yield func(t *timer) bool) {
	for _, w := range q.list {
		switch w := w.(type) {
		case *timer:
			if !yield(w) {
				return
			}
		}
	}
}

// next returns the timer that is due earliest.
func (q *queue) next() (*timer, bool) {
	return earliest(q.timers, func(a, b *timer) int { return cmp.Compare(a.due, b.due) })
}

// ready gives the channel scripts that are to be done, with how many raw bytes wait.
func (q *queue) ready(x *core.Machine) iter.Seq2[done, int] {
	return func(yield func(done, int) bool) {
		for _, name := range core.Sorted(q.watches) {
			w := q.watches[name]
			_, readable, file, bytes := inout.Ready(x, name)
			for _, d := range []done{{name, false}, {name, true}} {
				body := w.readable
				if d.writing {
					body = w.writable
				}
				began, was := q.round[d]
				again := !was || !d.writing && !file && began != bytes
				if body == "" || !d.writing && !readable || !again {
					continue
				}
				if !yield(d, bytes) {
					return
				}
			}
		}
	}
}

// advance lets the time go on to a point, if it has not come so far.
func (q *queue) advance(to int) { q.time = max(q.time, min(to, api.MaxTime)) }

// event does a script that is due, behind its step; taken takes it out.
func (q *queue) event(x *core.Machine, body string, taken func()) (bool, core.Result) {
	if r := x.Step(); !r.Good() {
		return false, r
	}
	taken()
	r := x.At(0, func() core.Result { return x.Script(body) })
	if r.Code == api.CError {
		r = q.background(x, r.Text)
	}
	if r.Code == api.CStop {
		return true, r
	}
	return true, core.OK("")
}

// background notes an error down, and does the command that is told of it.
func (q *queue) background(x *core.Machine, text string) core.Result {
	q.errors = append(q.errors, text)
	s, e := x.Vars().GetAt(0, vars.Word{Name: "bgerror"})
	if e != api.OK {
		return core.OK("")
	}
	words, _, e := list.Split(s)
	if e != api.OK {
		return core.OK("")
	}
	return x.At(0, func() core.Result { return x.InvokeAny(append(words, text)) })
}

// turn does one turn, and tells whether it did something.
func (q *queue) turn(x *core.Machine) (bool, core.Result) {
	if t, ok := q.next(); ok && t.due <= q.time {
		return q.event(x, t.body, func() { q.remove(t.name) })
	}
	for d, bytes := range q.ready(x) {
		body := q.watches[d.channel].readable
		if d.writing {
			body = q.watches[d.channel].writable
		}
		return q.event(x, body, func() { q.round[d] = bytes })
	}
	clear(q.round)
	return q.idleTurn(x)
}

// idleTurn does all idle scripts that are there now.
func (q *queue) idleTurn(x *core.Machine) (did bool, r core.Result) {
	for _, w := range slices.Clone(q.list) {
		i, ok := w.(*idle)
		if !ok || q.named(i.name) == nil {
			continue
		}
		did2, r := q.event(x, i.body, func() { q.remove(i.name) })
		did = did || did2
		if !r.Good() {
			return did, r
		}
	}
	return did, core.OK("")
}

// turns does turns until one does nothing.
func (q *queue) turns(x *core.Machine, turn func(x *core.Machine) (bool, core.Result)) core.Result {
	for {
		did, r := turn(x)
		if !r.Good() || !did {
			return r
		}
	}
}

// pass lets time go by.
func (q *queue) pass(x *core.Machine, ms int) core.Result {
	end := min(q.time+min(ms, api.MaxTime), api.MaxTime)
	for {
		if r := q.turns(x, q.turn); !r.Good() {
			return r
		}
		t, ok := q.next()
		if !ok || t.due > end {
			break
		}
		q.advance(t.due)
	}
	if q.time >= end {
		return core.OK("")
	}
	q.advance(end)
	return q.turns(x, q.turn)
}
