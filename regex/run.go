package regex

import (
	"iter"

	"threadbare/api"
)

// passed is how a group was passed: where it begins now, and its span; one more than the indexes, so that 0 is none.
type passed struct{ begin, from, to int }

// groups are all groups.
type groups [maxGroups]passed

// maxRead is how many groups a back reference can read.
const maxRead = 9

// spot is what was tried in vain: an instruction at a place; made of the times around have taken something. groups are told only where back references read them.
type spot struct {
	lane, at int
	groups   [maxRead]passed
}

// matcher searches in one text.
type matcher struct {
	*program
	s      string
	whole  bool // only ways that end at the end of the text count
	count  int
	groups groups
	read   [maxRead]bool // the groups that back references read
	reads  bool
	// What was tried in vain stays so for later searches. Without back references a bit tells it, otherwise the map.
	bits  [][]uint64
	tried map[spot]bool
	looks map[spot]bool
}

func newMatcher(p pattern, s string, fold, lines bool) *matcher {
	m := &matcher{program: compile(p.root, fold, lines), s: s, count: p.groups, tried: map[spot]bool{}, looks: map[spot]bool{}}
	m.bits = make([][]uint64, m.lanes)
	for _, i := range m.list {
		if i.op == opBack {
			m.read[i.number-1], m.reads = true, true
		}
	}
	return m
}

// task is something to be tried later: an instruction at a place, or, with undo, a group to be laid back.
type task struct {
	pc, at, made int
	trail        int
	undo         bool
	old          passed
}

func (m *matcher) spot(lane, at int) spot {
	k := spot{lane: lane, at: at}
	if m.reads {
		for i, read := range m.read {
			if read {
				k.groups[i] = m.groups[i]
			}
		}
	}
	return k
}

// mark notes down that something is tried; false if it was tried before.
func (m *matcher) mark(k spot) bool {
	if m.reads {
		if m.tried[k] {
			return false
		}
		m.tried[k] = true
		return true
	}
	if m.bits[k.lane] == nil {
		m.bits[k.lane] = make([]uint64, len(m.s)/64+1)
	}
	word := &m.bits[k.lane][k.at/64]
	if *word>>(k.at%64)&1 == 1 {
		return false
	}
	*word |= 1 << (k.at % 64)
	return true
}

// unmark takes back what was not in vain.
func (m *matcher) unmark(trail []spot) {
	for _, k := range trail {
		if m.reads {
			delete(m.tried, k)
		} else {
			m.bits[k.lane][k.at/64] &^= 1 << (k.at % 64)
		}
	}
}

// run looks for the first way of an instruction from a place on, and returns its end; -1 if there is none.
func (m *matcher) run(pc, at int) int {
	stack := []task{{pc: pc, at: at}}
	var trail []spot
	for len(stack) > 0 {
		t := stack[len(stack)-1]
		stack = stack[:len(stack)-1]
		if t.undo {
			m.groups[t.pc] = t.old
			continue
		}
		trail = trail[:t.trail]
		if end := m.follow(t, &stack, &trail); end >= 0 {
			m.unmark(trail)
			return end
		}
	}
	return -1
}

// follow goes on from a task up to an end of the pattern, or until it is in vain (-1).
func (m *matcher) follow(t task, stack *[]task, trail *[]spot) int {
	pc, at, made := t.pc, t.at, t.made
	for {
		i := &m.list[pc]
		k := m.spot(i.lane+made, at)
		if !m.mark(k) {
			return -1
		}
		*trail = append(*trail, k)
		pc++
		switch i.op {
		case opByte:
			if at == len(m.s) || !i.bytes[m.s[at]] {
				return -1
			}
			at++
			made = i.inside
		case opSplit:
			*stack = append(*stack, task{pc: i.other, at: at, made: made, trail: len(*trail)})
			pc = i.to
		case opJump:
			pc = i.to
		case opOpen, opClose:
			m.pass(i, at, stack)
		case opPlace:
			if !m.stands(i.kind, m.s, at) {
				return -1
			}
		case opLook:
			if m.ahead(i.to, at) == i.not {
				return -1
			}
			pc = i.other
		case opBack:
			g := m.groups[i.number-1]
			if g.from == 0 {
				return -1
			}
			end := m.taken(m.s[g.from-1:g.to-1], m.s, at)
			if end < 0 {
				return -1
			}
			if end > at {
				made = i.inside
			}
			at = end
		case opLeave:
			if made < i.inside {
				return -1
			}
			made = i.inside - 1
		case opEnd:
			if m.whole && i == &m.list[len(m.list)-1] && at < len(m.s) {
				return -1
			}
			return at
		}
	}
}

// pass notes down where a group begins or ends, and how to take that back.
func (m *matcher) pass(i *instruction, at int, stack *[]task) {
	g := &m.groups[i.number-1]
	*stack = append(*stack, task{pc: i.number - 1, undo: true, old: *g})
	if i.op == opOpen {
		g.begin = at + 1
		return
	}
	*g = passed{0, g.begin, at + 1}
}

// ahead reports whether there is a way from an instruction on.
func (m *matcher) ahead(pc, at int) bool {
	k := spot{lane: pc, at: at}
	found, known := m.looks[k]
	if !known {
		found = m.run(pc, at) >= 0
		m.looks[k] = found
	}
	return found
}

// find returns the spans of the match of the least index from an index on; nil if there is none.
func (m *matcher) find(from int) []api.Span {
	for at := from; at <= len(m.s); at++ {
		m.groups = groups{}
		if end := m.run(0, at); end >= 0 {
			l := []api.Span{{From: at, To: end}}
			for _, g := range m.groups[:m.count] {
				l = append(l, api.Span{From: g.from - 1, To: g.to - 1})
			}
			return l
		}
	}
	return nil
}

// all gives all matches.
func (m *matcher) all() iter.Seq[[]api.Span] {
	return func(yield func([]api.Span) bool) {
		for from := 0; from <= len(m.s); {
			l := m.find(from)
			if l == nil || !yield(l) {
				return
			}
			from = l[0].To
			if l[0].From == l[0].To {
				from++
			}
		}
	}
}
