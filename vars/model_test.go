package vars

import (
	"math/rand"
	"regexp"
	"slices"
	"testing"

	"threadbare/api"
	"threadbare/list"
	"threadbare/text"
)

// The space is held against boxes: what a name leads to, by scopes.

type box struct {
	kind  int
	value string
	in    map[string]string
}

type lead struct {
	to      *box
	element bool
	index   string
	link    bool
	own     *box // what the name was before it was a link
}

type model struct {
	scopes map[int]map[string]*lead
	calls  []int
	rooms  map[string]int
	last   int
}

var wordForm = regexp.MustCompile(`(?s)^([^(]*)\((.*)\)$`)

func (m *model) find(scope int, word string) (lead, api.Errno) {
	names := m.scopes[scope]
	if names == nil {
		return lead{}, api.ErrRange
	}
	base, index := word, ""
	parts := wordForm.FindStringSubmatch(word)
	if parts != nil {
		base, index = parts[1], parts[2]
	}
	if names[base] == nil {
		own := &box{}
		names[base] = &lead{to: own, own: own}
	}
	at := *names[base]
	if parts == nil {
		return at, api.OK
	}
	if at.element {
		return lead{}, api.ErrKind
	}
	return lead{to: at.to, element: true, index: index}, api.OK
}

// is returns the kind of what is led to; wrong: it is an element of a scalar.
func (l lead) is() (kind int, wrong bool) {
	if !l.element {
		return l.to.kind, false
	}
	_, there := l.to.in[l.index]
	if l.to.kind == 1 {
		return 0, true
	}
	if there {
		return 1, false
	}
	return 0, false
}

func (m *model) set(scope int, word, value string) api.Errno {
	l, e := m.find(scope, word)
	if e != api.OK {
		return e
	}
	kind, wrong := l.is()
	if wrong || kind == 2 {
		return api.ErrKind
	}
	if l.element {
		if l.to.in == nil {
			l.to.in = map[string]string{}
		}
		l.to.kind, l.to.in[l.index] = 2, value
	} else {
		l.to.kind, l.to.value = 1, value
	}
	return api.OK
}

func (m *model) get(scope int, word string) (string, int, api.Errno) {
	l, e := m.find(scope, word)
	if e != api.OK {
		return "", 0, e
	}
	kind, wrong := l.is()
	switch {
	case wrong:
		return "", 0, api.ErrKind
	case kind == 2:
		return "", 2, api.ErrKind
	case kind == 0:
		return "", 0, api.ErrNone
	case l.element:
		return l.to.in[l.index], 1, api.OK
	}
	return l.to.value, 1, api.OK
}

func (m *model) unset(scope int, word string) api.Errno {
	l, e := m.find(scope, word)
	if e != api.OK {
		return e
	}
	kind, wrong := l.is()
	switch {
	case wrong:
		return api.ErrKind
	case kind == 0:
		return api.ErrNone
	case l.element:
		delete(l.to.in, l.index)
	default:
		*l.to = box{}
	}
	return api.OK
}

func (m *model) link(scope int, name string, to int, word string) api.Errno {
	if m.scopes[scope] == nil || m.scopes[to] == nil {
		return api.ErrRange
	}
	if wordForm.MatchString(name) {
		return api.ErrName
	}
	from, _ := m.find(scope, name)
	if !from.link && from.to.kind != 0 {
		return api.ErrDuplicate
	}
	base := word
	if parts := wordForm.FindStringSubmatch(word); parts != nil {
		base = parts[1]
	}
	if whole, _ := m.find(to, base); whole.to == from.own {
		return api.ErrState
	}
	l, e := m.find(to, word)
	if e != api.OK {
		return e
	}
	if _, wrong := l.is(); wrong {
		return api.ErrKind
	}
	l.link, l.own = true, from.own
	m.scopes[scope][name] = &l
	return api.OK
}

func (m *model) dump(scope int) string {
	var names []string
	for name, l := range m.scopes[scope] {
		if kind, _ := l.is(); kind != 0 {
			names = append(names, name)
		}
	}
	slices.Sort(names)
	var out []string
	for _, name := range names {
		l := m.scopes[scope][name]
		value, kind, _ := m.get(scope, name)
		is, _ := list.Join([]string{"s", value})
		if kind == 2 {
			var keys, pairs []string
			for k := range l.to.in {
				keys = append(keys, k)
			}
			slices.Sort(keys)
			for _, k := range keys {
				pairs = append(pairs, k, l.to.in[k])
			}
			inner, _ := list.Join(pairs)
			is, _ = list.Join([]string{"a", inner})
		}
		out = append(out, name, is)
	}
	s, _ := list.Join(out)
	return s
}

func TestAsBoxes(t *testing.T) {
	r := rand.New(rand.NewSource(1))
	words := []string{"a", "b", "c", "a(1)", "a(2)", "b(1)", "c()", "", "(x)", "a(", "a)"}
	for range 1000 {
		s, m := New(), &model{scopes: map[int]map[string]*lead{0: {}}, rooms: map[string]int{"": 0}}
		for range 60 {
			scope, to := r.Intn(m.last+2), r.Intn(m.last+2)
			word, other := words[r.Intn(len(words))], words[r.Intn(len(words))]
			var got, want api.Errno
			what := r.Intn(9)
			switch what {
			case 0:
				m.last++
				m.calls, m.scopes[m.last] = append(m.calls, m.last), map[string]*lead{}
				if n := s.Push(); n != m.last {
					t.Fatalf("Push = %d, not %d", n, m.last)
				}
			case 1:
				if r.Intn(3) > 0 {
					continue
				}
				if got, want = s.Pop(), api.ErrState; len(m.calls) > 0 {
					last := len(m.calls) - 1
					delete(m.scopes, m.calls[last])
					m.calls, want = m.calls[:last], api.OK
				}
			case 2:
				n, there := m.rooms[word]
				if !there {
					m.last++
					n, m.rooms[word], m.scopes[m.last] = m.last, m.last, map[string]*lead{}
				}
				if k := s.Room(word); k != n {
					t.Fatalf("Room(%q) = %d, not %d", word, k, n)
				}
			case 3, 4:
				got, want = s.Set(scope, word, other), m.set(scope, word, other)
			case 5:
				got, want = s.Unset(scope, word), m.unset(scope, word)
			default:
				got, want = s.Link(scope, word, to, other), m.link(scope, word, to, other)
			}
			if got != want {
				t.Fatalf("call %d of %d %q, %d %q: %d, not %d", what, scope, word, to, other, got, want)
			}
			value, e := s.Get(scope, other)
			wanted, kind, wrong := m.get(scope, other)
			if value != wanted || e != wrong || s.Kind(scope, other) != kind {
				t.Fatalf("Get(%d, %q) = %q, %d, not %q, %d", scope, other, value, e, wanted, wrong)
			}
			if s.Calls() != len(m.calls) || s.Dump(scope) != m.dump(scope) {
				t.Fatalf("Dump(%d) = %q, not %q", scope, s.Dump(scope), m.dump(scope))
			}
			l := m.scopes[scope][word]
			if s.Linked(scope, word) != (l != nil && l.link) {
				t.Fatalf("Linked(%d, %q)", scope, word)
			}
			m.same(t, s, scope, word)
		}
	}
}

// same looks at names, indexes and levels.
func (m *model) same(t *testing.T, s *Space, scope int, word string) {
	for _, pattern := range []string{"*", "[a(]*"} {
		pairs, _, _ := list.Split(m.dump(scope))
		var want []string
		for i := 0; i < len(pairs); i += 2 {
			if text.Glob(pattern, pairs[i], false) {
				want = append(want, pairs[i])
			}
		}
		if got := s.Names(scope, pattern); !slices.Equal(got, want) {
			t.Fatalf("Names(%d, %s) = %q, not %q", scope, pattern, got, want)
		}
	}
	keys, e := s.Keys(scope, word, "[12]")
	l, wrong := m.find(scope, word)
	kind := 0
	if wrong == api.OK {
		bad := false
		if kind, bad = l.is(); bad || kind == 1 {
			wrong = api.ErrKind
		} else if kind == 0 {
			wrong = api.ErrNone
		}
	}
	var want []string
	for _, k := range []string{"1", "2"} {
		if wrong != api.OK {
			break
		}
		if _, there := l.to.in[k]; there {
			want = append(want, k)
		}
	}
	if !slices.Equal(keys, want) || e != wrong {
		t.Fatalf("Keys(%d, %q) = %q, %d, not %q, %d", scope, word, keys, e, want, wrong)
	}
	for level := range len(m.calls) + 3 {
		n, e := s.Scope(level - 1)
		switch {
		case level < 1 || level > len(m.calls)+1:
			if n != 0 || e != api.ErrRange {
				t.Fatalf("Scope(%d) = %d, %d", level-1, n, e)
			}
		case level == 1 && (n != 0 || e != api.OK), level > 1 && (n != m.calls[level-2] || e != api.OK):
			t.Fatalf("Scope(%d) = %d, %d", level-1, n, e)
		}
	}
}
