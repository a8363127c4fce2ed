package vars

import (
	"slices"

	"threadbare/api"
)

// The kinds of cells.
const (
	unset  = 0
	scalar = 1
	array  = 2
)

// Cell is a variable or an element, whatever names it has. Note is what later layers lay down beside it.
type Cell struct {
	kind     int
	value    string
	elements map[string]*Cell
	owner    *Cell // of an element: its array
	kept     bool  // something leads to it: it stays while it is unset
	changes  int
	Note     any
}

// broken reports whether the cell is an element of what is a scalar now.
func (c *Cell) broken() bool { return c.owner != nil && c.owner.kind == scalar }

// state returns the kind that the cell has at the moment.
func (c *Cell) state() int {
	if c.owner != nil && c.owner.kind != array {
		return unset
	}
	return c.kind
}

func (c *Cell) get() (string, api.Errno) {
	switch {
	case c.broken() || c.kind == array:
		return "", api.ErrKind
	case c.state() == unset:
		return "", api.ErrNone
	}
	return c.value, api.OK
}

func (c *Cell) set(value string) api.Errno {
	if c.broken() || c.kind == array {
		return api.ErrKind
	}
	if c.owner != nil {
		c.owner.becomeArray()
	}
	c.kind, c.value = scalar, value
	c.changes++
	return api.OK
}

func (c *Cell) becomeArray() {
	if c.kind != array {
		c.changes++
	}
	c.kind = array
	if c.elements == nil {
		c.elements = map[string]*Cell{}
	}
}

// element returns the element of an index, made if it is wanted; nil if there is none.
func (c *Cell) element(index string, wanted bool) *Cell {
	e := c.elements[index]
	if e == nil && wanted {
		if c.elements == nil {
			c.elements = map[string]*Cell{}
		}
		e = &Cell{owner: c}
		c.elements[index] = e
	}
	return e
}

// clear makes the cell, and all its elements, unset.
func (c *Cell) clear() {
	c.changes++
	for index, e := range c.elements {
		if e.kind != unset {
			e.changes++
		}
		e.kind, e.value = unset, ""
		if !e.kept {
			delete(c.elements, index)
		}
	}
	c.kind, c.value = unset, ""
}

// indexes returns the indexes of the elements that are set, ascending.
func (c *Cell) indexes() []string {
	var l []string
	for index, e := range c.elements {
		if e.kind == scalar {
			l = append(l, index)
		}
	}
	slices.Sort(l)
	return l
}

// Elements returns all elements that the cell ever had and that something leads to still, by their indexes ascending.
func (c *Cell) Elements() []*Cell {
	var keys []string
	for index := range c.elements {
		keys = append(keys, index)
	}
	slices.Sort(keys)
	var l []*Cell
	for _, index := range keys {
		l = append(l, c.elements[index])
	}
	return l
}

// Array returns the array of an element; nil for what is none, and while the array is a scalar.
func (c *Cell) Array() *Cell {
	if c.broken() {
		return nil
	}
	return c.owner
}

// Divided reports whether the cell is an array, or may become one by an element.
func (c *Cell) Divided() bool { return c.owner == nil && c.kind != scalar }

// Changes returns how often the cell was set or unset.
func (c *Cell) Changes() int { return c.changes }
