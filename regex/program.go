package regex

import "threadbare/text"

// What an instruction does.
const (
	opByte  = iota // takes a byte of the set
	opSplit        // goes on at to, and, if that is in vain, at other
	opJump         // goes on at to
	opOpen         // a group begins
	opClose        // a group ends
	opPlace        // asks for a place
	opLook         // asks whether there is a way from to on; goes on at other
	opBack         // takes what a group was
	opEnter        // one time of a repetition begins
	opLeave        // it ends; it must have taken something
	opEnd          // the end of the pattern, or of what is looked for
)

type instruction struct {
	op        int
	to, other int
	number    int // of a group
	kind      byte
	not       bool
	bytes     *[256]bool
	// inside is how many times of repetitions are around the instruction.
	inside int
	lane   int
}

// program is a pattern as instructions. Nothing that is tried again at one place goes on in another way: what was tried is told by the instruction, the place, and how many of the times around (the outer ones first) have taken something; each of these pairs of instruction and number is a lane.
type program struct {
	list        []instruction
	lanes       int
	inside      int
	fold, lines bool
}

func compile(root node, fold, lines bool) *program {
	p := &program{fold: fold, lines: lines}
	p.lay(root)
	p.add(instruction{op: opEnd})
	return p
}

func (p *program) add(i instruction) int {
	i.inside, i.lane = p.inside, p.lanes
	p.lanes += p.inside + 1
	p.list = append(p.list, i)
	return len(p.list) - 1
}

func (p *program) lay(n node) {
	switch n := n.(type) {
	case set:
		p.add(instruction{op: opByte, bytes: p.bytesOf(n)})
	case place:
		p.add(instruction{op: opPlace, kind: n.kind})
	case back:
		p.add(instruction{op: opBack, number: n.number})
	case group:
		p.layGroup(n)
	case look:
		p.layLook(n)
	case pieces:
		for _, x := range n.list {
			p.lay(x)
		}
	case branches:
		p.layBranches(n.list)
	case repeat:
		p.layRepeat(n)
	}
}

// bytesOf returns which bytes a set has, with both forms of letters and without line feeds as it is told.
func (p *program) bytesOf(n set) *[256]bool {
	r := *n.bytes
	if p.fold {
		for c := 'a'; c <= 'z'; c++ {
			both := r[c] || r[c-32]
			r[c], r[c-32] = both, both
		}
	}
	if n.negated {
		for c := range r {
			r[c] = !r[c]
		}
		if p.lines {
			r['\n'] = false
		}
	}
	return &r
}

func (p *program) layGroup(n group) {
	if n.number == 0 {
		p.lay(n.in)
		return
	}
	p.add(instruction{op: opOpen, number: n.number})
	p.lay(n.in)
	p.add(instruction{op: opClose, number: n.number})
}

func (p *program) layLook(n look) {
	at := p.add(instruction{op: opLook, not: n.not})
	p.list[at].to = len(p.list)
	around := p.inside
	p.inside = 0
	p.lay(n.in)
	p.add(instruction{op: opEnd})
	p.inside = around
	p.list[at].other = len(p.list)
}

func (p *program) layBranches(l []node) {
	var jumps []int
	for i, n := range l {
		if i == len(l)-1 {
			p.lay(n)
			break
		}
		split := p.add(instruction{op: opSplit})
		p.list[split].to = len(p.list)
		p.lay(n)
		jumps = append(jumps, p.add(instruction{op: opJump}))
		p.list[split].other = len(p.list)
	}
	for _, at := range jumps {
		p.list[at].to = len(p.list)
	}
}

// once lays the choice between one more time and none; it returns the place of the choice.
func (p *program) once(n repeat) int {
	split := p.add(instruction{op: opSplit})
	p.inside++
	p.add(instruction{op: opEnter})
	p.lay(n.in)
	p.add(instruction{op: opLeave})
	p.inside--
	return split
}

// land says where a choice goes on: at one more time, or behind the repetition.
func (p *program) land(split int, lazy bool) {
	p.list[split].to, p.list[split].other = split+1, len(p.list)
	if lazy {
		p.list[split].to, p.list[split].other = len(p.list), split+1
	}
}

func (p *program) layRepeat(n repeat) {
	for range n.from {
		p.lay(n.in)
	}
	if n.most < 0 {
		split := p.once(n)
		p.add(instruction{op: opJump, to: split})
		p.land(split, n.lazy)
		return
	}
	var splits []int
	for range n.most - n.from {
		splits = append(splits, p.once(n))
	}
	for _, split := range splits {
		p.land(split, n.lazy)
	}
}

// stands reports whether a place is right.
func (p *program) stands(kind byte, s string, at int) bool {
	switch kind {
	case '^':
		return at == 0 || p.lines && s[at-1] == '\n'
	case '$':
		return at == len(s) || p.lines && s[at] == '\n'
	}
	before := at > 0 && wordByte(s[at-1])
	behind := at < len(s) && wordByte(s[at])
	return before != behind
}

// taken returns where a back reference to some bytes ends; -1 if they do not stand here.
func (p *program) taken(bytes, s string, at int) int {
	if len(s)-at < len(bytes) {
		return -1
	}
	here := s[at : at+len(bytes)]
	if here == bytes || p.fold && text.Lower(here) == text.Lower(bytes) {
		return at + len(bytes)
	}
	return -1
}
