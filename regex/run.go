package regex

import (
	"iter"

	"threadbare/api"
	"threadbare/text"
)

// passed is how a group was passed: where it begins now, and its span; one more than the indexes, so that 0 is none.
type passed struct{ begin, from, to int }

// groups are all groups.
type groups [maxGroups]passed

const (
	// maxRead is how many groups a back reference can read.
	maxRead = 9
	// maxTried is how much is kept of what was tried in vain with back references.
	maxTried = 1 << 22
)

// seen is what counts of a group for what is tried: where it begins now, and the number of the bytes that it was.
type seen struct{ begin, bytes int32 }

// spot is what was tried in vain where back references read groups: an instruction at a place (told as a lane), and those groups.
type spot struct {
	lane, at int
	groups   [maxRead]seen
}

// mark is what was tried without back references.
type mark struct{ lane, at int }

// trail is what is being tried, from the beginning of a way on: in one of both forms.
type trail struct {
	marks []mark
	spots []spot
}

func (t *trail) length() int { return len(t.marks) + len(t.spots) }

// cut leaves the first ones.
func (t *trail) cut(length int) {
	t.marks = t.marks[:min(length, len(t.marks))]
	t.spots = t.spots[:min(length, len(t.spots))]
}

// matcher searches in one text.
type matcher struct {
	*program
	s      string
	whole  bool // only ways that end at the end of the text count
	count  int
	groups groups
	read   [maxRead]bool // the groups that back references read
	reads  bool
	// What was tried in vain stays so for later searches. Without back references a bit tells it, otherwise the map.
	bits  [][]uint64
	tried map[spot]bool
	texts map[string]int32 // the numbers of the bytes that groups were
	looks map[mark]bool
}

func newMatcher(p pattern, s string, fold, lines bool) *matcher {
	m := &matcher{program: compile(p.root, fold, lines), s: s, count: p.groups, tried: map[spot]bool{}, texts: map[string]int32{}, looks: map[mark]bool{}}
	m.bits = make([][]uint64, m.lanes)
	for _, i := range m.list {
		if i.op == opBack {
			m.read[i.number-1], m.reads = true, true
		}
	}
	return m
}

// task is something to be tried later: an instruction at a place, or, with undo, a group to be laid back.
type task struct {
	pc, at, made int
	trail        int
	undo         bool
	old          passed
}

// begin notes down that something is tried; false if it was tried before.
func (m *matcher) begin(lane, at int, t *trail) bool {
	if m.reads {
		return m.beginFar(lane, at, t)
	}
	if m.bits[lane] == nil {
		m.bits[lane] = make([]uint64, len(m.s)/64+1)
	}
	word := &m.bits[lane][at/64]
	if *word>>(at%64)&1 == 1 {
		return false
	}
	*word |= 1 << (at % 64)
	t.marks = append(t.marks, mark{lane, at})
	return true
}

// beginFar is begin where what groups were passed as counts, too.
func (m *matcher) beginFar(lane, at int, t *trail) bool {
	k := spot{lane: lane, at: at}
	for i, read := range m.read {
		if read {
			k.groups[i] = m.seen(m.groups[i])
		}
	}
	if m.tried[k] {
		return false
	}
	if len(m.tried) >= maxTried {
		// What is forgotten is only tried again.
		clear(m.tried)
	}
	m.tried[k] = true
	t.spots = append(t.spots, k)
	return true
}

// seen returns what counts of a group: of several places with the same bytes any does the same.
func (m *matcher) seen(g passed) seen {
	if g.from == 0 {
		return seen{begin: int32(g.begin)}
	}
	bytes := m.s[g.from-1 : g.to-1]
	if m.fold {
		bytes = text.Lower(bytes)
	}
	n, known := m.texts[bytes]
	if !known {
		n = int32(len(m.texts) + 1)
		m.texts[bytes] = n
	}
	return seen{int32(g.begin), n}
}

// unmark takes back what was not in vain.
func (m *matcher) unmark(t *trail) {
	for _, k := range t.marks {
		m.bits[k.lane][k.at/64] &^= 1 << (k.at % 64)
	}
	for _, k := range t.spots {
		delete(m.tried, k)
	}
}

// run looks for the first way of an instruction from a place on, and returns its end; -1 if there is none.
func (m *matcher) run(pc, at int) int {
	stack := []task{{pc: pc, at: at}}
	var way trail
	for len(stack) > 0 {
		t := stack[len(stack)-1]
		stack = stack[:len(stack)-1]
		if t.undo {
			m.groups[t.pc] = t.old
			continue
		}
		way.cut(t.trail)
		if end := m.follow(t, &stack, &way); end >= 0 {
			m.unmark(&way)
			return end
		}
	}
	return -1
}

// follow goes on from a task up to an end of the pattern, or until it is in vain (-1). Only choices are noted down: what lies between two of them is short.
func (m *matcher) follow(t task, stack *[]task, way *trail) int {
	pc, at, made := t.pc, t.at, t.made
	for {
		i := &m.list[pc]
		pc++
		switch i.op {
		case opByte:
			if at == len(m.s) || !i.bytes[m.s[at]] {
				return -1
			}
			at++
			made = i.inside
		case opSplit:
			if !m.begin(i.lane+made, at, way) {
				return -1
			}
			*stack = append(*stack, task{pc: i.other, at: at, made: made, trail: way.length()})
			pc = i.to
		case opJump:
			pc = i.to
		case opOpen, opClose:
			m.pass(i, at, stack)
		case opPlace:
			if !m.stands(i.kind, m.s, at) {
				return -1
			}
		case opLook:
			if m.ahead(i.to, at) == i.not {
				return -1
			}
			pc = i.other
		case opBack:
			end := m.backTo(i.number, at)
			if end < 0 {
				return -1
			}
			if end > at {
				made = i.inside
			}
			at = end
		case opLeave:
			if made < i.inside {
				return -1
			}
			made = i.inside - 1
		case opEnd:
			if m.whole && i == &m.list[len(m.list)-1] && at < len(m.s) {
				return -1
			}
			return at
		}
	}
}

// backTo returns where the bytes of a group end that stand here; -1 if it was not passed, or they do not.
func (m *matcher) backTo(number, at int) int {
	g := m.groups[number-1]
	if g.from == 0 {
		return -1
	}
	return m.taken(m.s[g.from-1:g.to-1], m.s, at)
}

// pass notes down where a group begins or ends, and how to take that back.
func (m *matcher) pass(i *instruction, at int, stack *[]task) {
	g := &m.groups[i.number-1]
	*stack = append(*stack, task{pc: i.number - 1, undo: true, old: *g})
	if i.op == opOpen {
		g.begin = at + 1
		return
	}
	*g = passed{0, g.begin, at + 1}
}

// ahead reports whether there is a way from an instruction on.
func (m *matcher) ahead(pc, at int) bool {
	k := mark{pc, at}
	found, known := m.looks[k]
	if !known {
		found = m.run(pc, at) >= 0
		m.looks[k] = found
	}
	return found
}

// find returns the spans of the match of the least index from an index on; nil if there is none.
func (m *matcher) find(from int) []api.Span {
	for at := from; at <= len(m.s); at++ {
		m.groups = groups{}
		if end := m.run(0, at); end >= 0 {
			l := []api.Span{{From: at, To: end}}
			for _, g := range m.groups[:m.count] {
				l = append(l, api.Span{From: g.from - 1, To: g.to - 1})
			}
			return l
		}
	}
	return nil
}

// all gives all matches.
func (m *matcher) all() iter.Seq[[]api.Span] {
	return func(yield func([]api.Span) bool) {
		for from := 0; from <= len(m.s); {
			l := m.find(from)
			if l == nil || !yield(l) {
				return
			}
			from = l[0].To
			if l[0].From == l[0].To {
				from++
			}
		}
	}
}
