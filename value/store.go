package value

import (
	"threadbare/api"
	"threadbare/list"
)

// Store keeps values by handles.
type Store struct {
	values []*Value
}

// NewStore returns an empty store.
func NewStore() *Store { return &Store{} }

func (s *Store) keep(v *Value) int {
	s.values = append(s.values, v)
	return len(s.values) - 1
}

func (s *Store) at(h int) (*Value, api.Errno) {
	if s == nil || h < 0 || h >= len(s.values) {
		return nil, api.ErrName
	}
	return s.values[h], api.OK
}

// Add makes a value of a text.
func (s *Store) Add(text string) int {
	if s == nil {
		return 0
	}
	return s.keep(New(text))
}

// Make makes a value of elements.
func (s *Store) Make(l []string) (int, api.Errno) {
	if s == nil {
		return 0, api.ErrName
	}
	v, e := OfList(l)
	if e != api.OK {
		return 0, e
	}
	return s.keep(v), api.OK
}

// Copy makes another handle of a value.
func (s *Store) Copy(h int) (int, api.Errno) {
	v, e := s.at(h)
	if e != api.OK {
		return 0, e
	}
	return s.keep(v.twin()), api.OK
}

// Text returns a value's text.
func (s *Store) Text(h int) (string, api.Errno) {
	v, e := s.at(h)
	return v.Text(), e
}

// Face returns a value's face.
func (s *Store) Face(h int) (int, api.Errno) {
	v, e := s.at(h)
	return v.Face(), e
}

// asks is what makes each face, in the order of the faces.
func asks() [4]func(v *Value) api.Errno {
	return [4]func(v *Value) api.Errno{
		api.FText:   func(v *Value) api.Errno { v.drop(); return api.OK },
		api.FList:   asking((*Value).List),
		api.FNumber: asking((*Value).Number),
		api.FDict:   asking((*Value).Pairs),
	}
}

func asking[T any](ask func(v *Value) (T, api.Errno)) func(v *Value) api.Errno {
	return func(v *Value) api.Errno {
		_, e := ask(v)
		return e
	}
}

// Ask asks a value for a face.
func (s *Store) Ask(h, face int) api.Errno {
	v, e := s.at(h)
	if e != api.OK {
		return e
	}
	if face < api.FText || face > api.FDict {
		return api.ErrRange
	}
	return asks()[face](v)
}

// Element returns an element of a value as a list.
func (s *Store) Element(h, i int) (string, api.Errno) {
	v, e := s.at(h)
	if e != api.OK {
		return "", e
	}
	l, e := v.List()
	if e != api.OK {
		return "", e
	}
	if i < 0 || i >= len(l) {
		return "", api.ErrRange
	}
	return l[i], api.OK
}

// Append puts a text behind a value.
func (s *Store) Append(h int, text string) api.Errno {
	v, e := s.at(h)
	if e != api.OK {
		return e
	}
	old := v.Text()
	if len(old)+len(text) > api.MaxText {
		return api.ErrLong
	}
	v.turn(textFace{})
	v.written = old + text
	return api.OK
}

// lay gives a value elements, or pairs, and their canonical text.
func (v *Value) lay(l []string, f face) api.Errno {
	if len(l) > api.MaxList {
		// A list that is too long in both ways is too long a text first.
		if size(l) > api.MaxText {
			return api.ErrLong
		}
		return api.ErrLimit
	}
	s, e := list.Join(l)
	if e != api.OK {
		return api.ErrLong
	}
	v.turn(f)
	v.written = s
	return api.OK
}

// size is the length of the canonical list of elements.
func size(l []string) int {
	n := max(len(l)-1, 0)
	for _, s := range l {
		n += len(list.Quote(s))
	}
	return n
}

// Put changes an element of a value as a list.
func (s *Store) Put(h, i int, text string) api.Errno {
	v, e := s.at(h)
	if e != api.OK {
		return e
	}
	l, e := v.List()
	if e != api.OK {
		return e
	}
	if i < 0 || i >= len(l) {
		return api.ErrRange
	}
	l[i] = text
	return v.lay(l, listFace{l})
}

// Enter sets a key of a value as a dictionary.
func (s *Store) Enter(h int, key, text string) api.Errno {
	v, e := s.at(h)
	if e != api.OK {
		return e
	}
	l, e := v.Pairs()
	if e != api.OK {
		return e
	}
	for i := 0; i < len(l); i += 2 {
		if l[i] == key {
			l[i+1] = text
			return v.lay(l, dictFace{l})
		}
	}
	l = append(l, key, text)
	return v.lay(l, dictFace{l})
}

// Forget drops all faces of all values.
func (s *Store) Forget() {
	if s == nil {
		return
	}
	for _, v := range s.values {
		v.drop()
	}
}
