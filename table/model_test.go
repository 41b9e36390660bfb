package table

import (
	"math/rand"
	"slices"
	"testing"

	"threadbare/api"
	"threadbare/text"
)

// The table is held against a list of commands that is searched from its beginning.

type plain struct {
	name         string
	hidden, gone bool
	origin       int
}

type model struct {
	all   []plain // the command n at n - 1
	epoch int
}

func (m *model) find(name string, hidden bool) int {
	for i, c := range m.all {
		if !c.gone && c.name == name && c.hidden == hidden {
			return i + 1
		}
	}
	return 0
}

func (m *model) there(n int) bool { return n > 0 && n <= len(m.all) && !m.all[n-1].gone }

func (m *model) imports(n int) []int {
	var out []int
	for i, c := range m.all {
		if !c.gone && c.origin == n && m.there(n) {
			out = append(out, i+1)
		}
	}
	return out
}

func (m *model) take(n int) []int {
	if !m.there(n) {
		return nil
	}
	out := []int{n}
	for _, i := range m.imports(n) {
		out = append(out, m.take(i)...)
	}
	m.all[n-1].gone = true
	slices.Sort(out)
	return out
}

func (m *model) add(name string, origin int) (int, []int) {
	gone := m.take(m.find(name, false))
	m.all = append(m.all, plain{name: name, origin: origin})
	m.epoch++
	return len(m.all), gone
}

func (m *model) move(old string, was bool, name string, hidden bool) api.Errno {
	n := m.find(old, was)
	switch {
	case n == 0:
		return api.ErrNone
	case m.find(name, hidden) != 0:
		return api.ErrDuplicate
	}
	m.all[n-1].name, m.all[n-1].hidden = name, hidden
	m.epoch++
	return api.OK
}

func (m *model) names(pattern string, hidden bool) []string {
	var out []string
	for _, c := range m.all {
		if !c.gone && c.hidden == hidden && text.Glob(pattern, c.name, false) {
			out = append(out, c.name)
		}
	}
	slices.Sort(out)
	return out
}

func TestAsAList(t *testing.T) {
	r := rand.New(rand.NewSource(1))
	names := []string{"a", "b", "c", "ab", ""}
	for range 500 {
		x, m := New(), &model{}
		for range 50 {
			name, other, n := names[r.Intn(5)], names[r.Intn(5)], r.Intn(len(m.all)+3)-1
			var got, want api.Errno
			what := r.Intn(8)
			switch what {
			case 0, 1:
				k, gone := x.Define(name)
				if wanted, lost := m.add(name, 0); k != wanted || !slices.Equal(gone, lost) {
					t.Fatalf("Define(%q) = %d, %v, not %d, %v", name, k, gone, wanted, lost)
				}
			case 2, 3, 4:
				k, gone, e := x.Import(name, n)
				got = e
				if !m.there(n) {
					want = api.ErrNone
				}
				for c := n; m.there(c); c = m.all[c-1].origin {
					if c == m.find(name, false) {
						want = api.ErrState
					}
				}
				if want == api.OK {
					if wanted, lost := m.add(name, n); k != wanted || !slices.Equal(gone, lost) {
						t.Fatalf("Import(%q, %d) = %d, %v, not %d, %v", name, n, k, gone, wanted, lost)
					}
				}
			case 5:
				got, want = x.Rename(name, other), m.move(name, false, other, false)
			case 6:
				if r.Intn(2) == 0 {
					got, want = x.Hide(name, other), m.move(name, false, other, true)
				} else {
					got, want = x.Expose(name, other), m.move(name, true, other, false)
				}
			case 7:
				if r.Intn(2) == 0 {
					continue
				}
				gone, e := x.Delete(name)
				k := m.find(name, false)
				lost := m.take(k)
				if got, want = e, api.OK; k == 0 {
					want = api.ErrNone
				} else {
					m.epoch++
				}
				if !slices.Equal(gone, lost) {
					t.Fatalf("Delete(%q) = %v, not %v", name, gone, lost)
				}
			}
			if got != want {
				t.Fatalf("call %d of %q, %q, %d: %d, not %d", what, name, other, n, got, want)
			}
			m.same(t, x)
		}
	}
}

func (m *model) same(t *testing.T, x *Table) {
	t.Helper()
	for n := -1; n < len(m.all)+2; n++ {
		name, hidden, there := x.Name(n)
		origin, e := x.Origin(n)
		var c plain
		want, wrong := 0, api.ErrNone
		if m.there(n) {
			c = m.all[n-1]
			for want, wrong = n, api.OK; m.all[want-1].origin != 0; want = m.all[want-1].origin {
			}
		}
		if name != c.name || hidden != c.hidden || there != m.there(n) || origin != want || e != wrong || !slices.Equal(x.Imports(n), m.imports(n)) {
			t.Fatalf("the command %d: %q, %t, %t, origin %d, %d, imports %v", n, name, hidden, there, origin, e, x.Imports(n))
		}
	}
	count := 0
	for _, c := range m.all {
		if !c.gone {
			count++
		}
	}
	for _, name := range []string{"a", "b", "ab", ""} {
		if x.Find(name) != m.find(name, false) || x.FindHidden(name) != m.find(name, true) {
			t.Fatalf("Find(%q) = %d, %d", name, x.Find(name), x.FindHidden(name))
		}
	}
	for _, pattern := range []string{"*", "a*"} {
		if !slices.Equal(x.Names(pattern), m.names(pattern, false)) || !slices.Equal(x.Hidden(pattern), m.names(pattern, true)) {
			t.Fatalf("Names(%s) = %q, Hidden %q", pattern, x.Names(pattern), x.Hidden(pattern))
		}
	}
	if x.Epoch() != m.epoch || x.Count() != count {
		t.Fatalf("epoch %d, count %d, not %d, %d", x.Epoch(), x.Count(), m.epoch, count)
	}
}
