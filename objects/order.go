package objects

import (
	"slices"

	"threadbare/api"
)

const maxClasses = 100

// graph tells orders of classes, whatever tells a class.
type graph[T comparable] struct {
	supers, mixins func(class T) []T
}

// circular reports whether a class comes above itself, or above one that is above it.
func (g graph[T]) circular(class T) bool {
	const open, done = 1, 2
	state := map[T]int{}
	var walk func(c T) bool
	walk = func(c T) bool {
		switch state[c] {
		case open:
			return true
		case done:
			return false
		}
		state[c] = open
		if slices.ContainsFunc(g.supers(c), walk) {
			return true
		}
		state[c] = done
		return false
	}
	return walk(class)
}

// order returns the class and those above it; of several places the last one counts. So it is made from its end: the first place counts there.
func (g graph[T]) order(class T) []T {
	seen := map[T]bool{}
	var r []T
	var walk func(c T)
	walk = func(c T) {
		if seen[c] {
			return
		}
		for _, s := range slices.Backward(g.supers(c)) {
			walk(s)
		}
		seen[c] = true
		r = append(r, c)
	}
	walk(class)
	slices.Reverse(r)
	return r
}

// mixed returns the order with the mixed orders of the mixins before each class; of several places the first one counts.
func (g graph[T]) mixed(classes ...T) []T {
	var r []T
	told, begun := map[T]bool{}, map[T]bool{}
	var walk func(c T)
	walk = func(c T) {
		// What was begun is on the way, or all told.
		if begun[c] {
			return
		}
		begun[c] = true
		for _, k := range g.order(c) {
			for _, m := range g.mixins(k) {
				walk(m)
			}
			if !told[k] {
				told[k] = true
				r = append(r, k)
			}
		}
	}
	for _, c := range classes {
		walk(c)
	}
	return r
}

// reaches reports whether a class comes to another one by superclasses or mixins.
func (g graph[T]) reaches(from, to T) bool {
	seen := map[T]bool{}
	var walk func(c T) bool
	walk = func(c T) bool {
		if c == to {
			return true
		}
		if seen[c] {
			return false
		}
		seen[c] = true
		return slices.ContainsFunc(g.supers(c), walk) || slices.ContainsFunc(g.mixins(c), walk)
	}
	return walk(from)
}

// byIndexes returns the graph of classes that are told by indexes.
func byIndexes(supers, mixins [][]int) graph[int] {
	return graph[int]{func(c int) []int { return supers[c] }, func(c int) []int { return mixins[c] }}
}

func inRange(n int, lists ...[][]int) bool {
	for _, list := range lists {
		for _, l := range list {
			if slices.ContainsFunc(l, func(c int) bool { return c < 0 || c >= n }) {
				return false
			}
		}
	}
	return n <= maxClasses
}

// Order returns the order of a class.
func Order(supers [][]int, class int) ([]int, api.Errno) {
	n := len(supers)
	if !inRange(n, supers) || class < 0 || class >= n {
		return nil, api.ErrRange
	}
	g := byIndexes(supers, make([][]int, n))
	if g.circular(class) {
		return nil, api.ErrState
	}
	return g.order(class), api.OK
}

// Mixed returns the mixed order of a class.
func Mixed(supers, mixins [][]int, class int) ([]int, api.Errno) {
	n := len(supers)
	switch {
	case len(mixins) != n:
		return nil, api.ErrInvalid
	case !inRange(n, supers, mixins) || class < 0 || class >= n:
		return nil, api.ErrRange
	}
	g := byIndexes(supers, mixins)
	for c := range n {
		if g.reaches(class, c) && g.circular(c) {
			return nil, api.ErrState
		}
	}
	return g.mixed(class), api.OK
}
