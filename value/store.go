package value

import (
	"slices"

	"threadbare/api"
	"threadbare/list"
)

// Store keeps values by handles.
type Store struct{ values []*Value }

// NewStore returns an empty store.
func NewStore() *Store { return &Store{} }

func (s *Store) keep(v *Value) int {
	s.values = append(s.values, v)
	return len(s.values) - 1
}

func (s *Store) find(h int) (*Value, api.Errno) {
	if s == nil || h < 0 || h >= len(s.values) {
		return nil, api.ErrName
	}
	return s.values[h], api.OK
}

// Add makes a value of a text.
func (s *Store) Add(text string) int {
	if s == nil {
		return 0
	}
	return s.keep(New(text))
}

// Make makes a value of elements.
func (s *Store) Make(l []string) (int, api.Errno) {
	if s == nil {
		return 0, api.ErrName
	}
	v, e := OfList(l)
	if e != api.OK {
		return 0, e
	}
	return s.keep(v), api.OK
}

// Copy makes another handle of the same value.
func (s *Store) Copy(h int) (int, api.Errno) {
	v, e := s.find(h)
	if e != api.OK {
		return 0, e
	}
	return s.keep(v.copied()), api.OK
}

// Text tells the text.
func (s *Store) Text(h int) (string, api.Errno) {
	v, e := s.find(h)
	return v.Text(), e
}

// Face tells the face.
func (s *Store) Face(h int) (int, api.Errno) {
	v, e := s.find(h)
	return v.Face(), e
}

// Ask asks a value for a face.
func (s *Store) Ask(h, face int) api.Errno {
	v, e := s.find(h)
	if e != api.OK {
		return e
	}
	asks := [...]func(*Value) api.Errno{(*Value).askText, (*Value).askList, (*Value).askNumber, (*Value).askPairs}
	if face < 0 || face >= len(asks) {
		return api.ErrRange
	}
	return asks[face](v)
}

// element returns a value's elements as a list, one of which is asked for.
func (s *Store) element(h, i int) (*Value, []string, api.Errno) {
	v, e := s.find(h)
	if e != api.OK {
		return nil, nil, e
	}
	l, e := v.elements()
	if e == api.OK && (i < 0 || i >= len(l)) {
		e = api.ErrRange
	}
	return v, l, e
}

// Element returns an element of a value as a list.
func (s *Store) Element(h, i int) (string, api.Errno) {
	_, l, e := s.element(h, i)
	if e != api.OK {
		return "", e
	}
	return l[i], api.OK
}

// Append puts a text behind a value.
func (s *Store) Append(h int, text string) api.Errno {
	v, e := s.find(h)
	if e != api.OK {
		return e
	}
	if len(v.text)+len(text) > api.MaxText {
		return api.ErrLong
	}
	v.change(v.text+text, nil)
	return api.OK
}

// written returns the canonical list; ErrLong counts ahead of ErrLimit.
func written(l []string) (string, api.Errno) {
	n := -1
	for _, s := range l {
		n += len(list.Quote(s)) + 1
	}
	if n > api.MaxText {
		return "", api.ErrLong
	}
	return list.Join(l)
}

// Put changes an element of a value as a list.
func (s *Store) Put(h, i int, text string) api.Errno {
	v, l, e := s.element(h, i)
	if e != api.OK {
		return e
	}
	l = slices.Clone(l)
	l[i] = text
	joined, e := written(l)
	if e == api.OK {
		v.change(joined, listFace{l})
	}
	return e
}

// Enter sets a key of a value as a dictionary.
func (s *Store) Enter(h int, key, text string) api.Errno {
	v, e := s.find(h)
	if e != api.OK {
		return e
	}
	l, e := v.Pairs()
	if e != api.OK {
		return e
	}
	at := 0
	for at < len(l) && l[at] != key {
		at += 2
	}
	if at == len(l) {
		l = append(l, key, "")
	}
	l[at+1] = text
	joined, e := written(l)
	if e == api.OK {
		v.change(joined, dictFace{l})
	}
	return e
}

// Forget drops all faces.
func (s *Store) Forget() {
	if s == nil {
		return
	}
	for _, v := range s.values {
		v.face = nil
	}
}
