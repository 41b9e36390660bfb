package vars

import (
	"slices"
	"testing"

	"threadbare/api"
)

func want(t *testing.T, what string, got, wanted any) {
	t.Helper()
	if got != wanted {
		t.Errorf("%s: %v, not %v", what, got, wanted)
	}
}

func value(s *Space, scope int, word string) string {
	v, e := s.Get(scope, word)
	if e != api.OK {
		return map[api.Errno]string{api.ErrNone: "<none>", api.ErrKind: "<kind>", api.ErrRange: "<range>"}[e]
	}
	return v
}

func TestVariables(t *testing.T) {
	s := New()
	want(t, "Set", s.Set(0, "a(1)", "x"), api.OK)
	want(t, "Set", s.Set(0, "b", "y"), api.OK)
	want(t, "Set", s.Set(0, "a(b(", "odd"), api.OK)
	for word, v := range map[string]string{"a(1)": "x", "a": "<kind>", "a(2)": "<none>", "b": "y", "b(1)": "<kind>", "c": "<none>", "c(1)": "<none>", "a(b(": "odd"} {
		want(t, word, value(s, 0, word), v)
	}
	want(t, "scalar as array", s.Set(0, "b(1)", ""), api.ErrKind)
	want(t, "array as scalar", s.Set(0, "a", ""), api.ErrKind)
	for word, k := range map[string]int{"a": 2, "a(1)": 1, "a(2)": 0, "b": 1, "b(1)": 0, "q": 0} {
		want(t, "Kind "+word, s.Kind(0, word), k)
	}
	want(t, "Unset element", s.Unset(0, "a(1)"), api.OK)
	want(t, "Unset again", s.Unset(0, "a(1)"), api.ErrNone)
	want(t, "an empty array", s.Kind(0, "a"), 2)
	want(t, "Unset array", s.Unset(0, "a"), api.OK)
	want(t, "gone", s.Kind(0, "a"), 0)
	want(t, "Unset of a scalar's element", s.Unset(0, "b(1)"), api.ErrKind)
	want(t, "Unset none", s.Unset(0, "zz"), api.ErrNone)
	s.Set(0, "", "empty")
	s.Set(0, "a", "now a scalar")
	want(t, "Dump", s.Dump(0), "{} {s empty} a {s {now a scalar}} a(b( {s odd} b {s y}")
	s.Set(5, "x", "y")
	want(t, "no scope", s.Set(5, "x", "y"), api.ErrRange)
	want(t, "no scope", value(s, 5, "x"), "<range>")
	want(t, "no scope", s.Unset(-1, "x"), api.ErrRange)
	want(t, "no scope", s.Kind(5, "x"), 0)
	want(t, "no scope", s.Dump(5), "")
	want(t, "no scope", len(s.Names(5, "*")), 0)
	for word, w := range map[string][3]string{"a": {"a", "", "0"}, "a(b)": {"a", "b", "1"}, "a(b)(c)": {"a", "b)(c", "1"}, "a(b": {"a(b", "", "0"}, "a)": {"a)", "", "0"}, "()": {"", "", "1"}, "": {"", "", "0"}, "a::b(x y)": {"a::b", "x y", "1"}, ")(": {")(", "", "0"}} {
		n, i, e := Split(word)
		if n != w[0] || i != w[1] || e != (w[2] == "1") {
			t.Errorf("Split(%q) = %q, %q, %t", word, n, i, e)
		}
	}
}

func TestScopes(t *testing.T) {
	s := New()
	a := s.Push()
	r := s.Room("r")
	b := s.Push()
	want(t, "numbers", [3]int{a, r, b}, [3]int{1, 2, 3})
	want(t, "Calls", s.Calls(), 2)
	want(t, "Room again", s.Room("r"), r)
	want(t, "Room of nothing", s.Room(""), 0)
	for level, n := range []int{0, a, b} {
		got, e := s.Scope(level)
		want(t, "Scope", got, n)
		want(t, "Scope", e, api.OK)
	}
	_, e := s.Scope(3)
	want(t, "Scope", e, api.ErrRange)
	_, e = s.Scope(-1)
	want(t, "Scope", e, api.ErrRange)
	s.Set(b, "x", "1")
	s.Set(r, "x", "room")
	want(t, "Pop", s.Pop(), api.OK)
	want(t, "ended", value(s, b, "x"), "<range>")
	want(t, "a new call", s.Push(), 4)
	want(t, "empty", value(s, 4, "x"), "<none>")
	want(t, "a room", value(s, r, "x"), "room")
	s.Pop()
	s.Pop()
	want(t, "Pop of none", s.Pop(), api.ErrState)
	var none *Space
	want(t, "nil", none.Push()+none.Room("x")+none.Calls()+none.Kind(0, "a"), 0)
	want(t, "nil", none.Pop(), api.ErrState)
	want(t, "nil", none.Set(0, "a", ""), api.ErrRange)
	want(t, "nil", none.Link(0, "a", 0, "b"), api.ErrRange)
	want(t, "nil", none.Linked(0, "a"), false)
	want(t, "nil", none.Dump(0), "")
	_, e = none.Keys(0, "a", "*")
	want(t, "nil", e, api.ErrRange)
}

func TestLinks(t *testing.T) {
	s := New()
	c := s.Push()
	want(t, "Link", s.Link(c, "x", 0, "a(1)"), api.OK)
	want(t, "unset", value(s, c, "x"), "<none>")
	want(t, "not made", s.Kind(0, "a"), 0)
	s.Set(c, "x", "5")
	want(t, "a", s.Kind(0, "a"), 2)
	want(t, "a(1)", value(s, 0, "a(1)"), "5")
	want(t, "an element of an element", value(s, c, "x(1)"), "<kind>")
	s.Link(c, "y", c, "x")
	s.Set(c, "y", "6")
	want(t, "a link of a link", value(s, 0, "a(1)"), "6")
	s.Unset(0, "a")
	want(t, "unset", value(s, c, "y"), "<none>")
	want(t, "an element of an element, unset", s.Set(c, "x(1)", ""), api.ErrKind)
	s.Set(0, "a", "scalar")
	want(t, "while it is a scalar", value(s, c, "x"), "<kind>")
	want(t, "while it is a scalar", s.Kind(c, "x"), 0)
	want(t, "while it is a scalar", len(s.Names(c, "*")), 0)
	s.Unset(0, "a")
	s.Set(0, "a(1)", "again")
	want(t, "again", value(s, c, "x"), "again")
	want(t, "linked", s.Linked(c, "x"), true)
	want(t, "unset through", s.Unset(c, "x"), api.OK)
	want(t, "still linked", s.Linked(c, "x"), true)
	s.Set(0, "g", "1")
	want(t, "anew", s.Link(c, "x", 0, "g"), api.OK)
	s.Set(c, "x", "2")
	want(t, "nobody is taken with it", value(s, c, "y"), "<none>")
	want(t, "g", value(s, 0, "g"), "2")
	for _, k := range []struct {
		name string
		to   int
		word string
		e    api.Errno
	}{{"x", 9, "g", api.ErrRange}, {"x(1)", 9, "g", api.ErrRange}, {"x(1)", 0, "g", api.ErrName}, {"own", 0, "own", api.ErrDuplicate}, {"z", c, "z", api.ErrState}, {"z", c, "z(1)", api.ErrState}, {"q", 0, "g(1)", api.ErrKind}, {"q", c, "e(1)", api.ErrKind}, {"x", c, "x", api.OK}} {
		s.Set(c, "own", "1")
		s.Link(c, "e", 0, "arr(1)")
		want(t, "Link "+k.name+" to "+k.word, s.Link(c, k.name, k.to, k.word), k.e)
	}
	want(t, "q is no link", s.Linked(c, "q"), false)
	s.Link(c, "p", 0, "n")
	want(t, "a circle", s.Link(0, "n", c, "p"), api.ErrState)
	want(t, "no scope", s.Link(9, "x", 0, "g"), api.ErrRange)
	d := s.Push()
	s.Set(d, "local", "kept")
	s.Link(0, "out", d, "local")
	s.Pop()
	want(t, "what links to an ended call's", value(s, 0, "out"), "kept")
	if n := s.Names(0, "*"); !slices.Equal(n, []string{"a", "g", "out"}) {
		t.Errorf("Names = %q", n)
	}
	s.Set(0, "a(0)", "z")
	s.Set(0, "a(10)", "y")
	k, e := s.Keys(0, "a", "1*")
	if e != api.OK || !slices.Equal(k, []string{"10"}) {
		t.Errorf("Keys = %q, %d", k, e)
	}
	for word, code := range map[string]api.Errno{"g": api.ErrKind, "zz": api.ErrNone, "a(0)": api.ErrKind, "a(9)": api.ErrNone, "g(1)": api.ErrKind} {
		_, e := s.Keys(0, word, "*")
		want(t, "Keys of "+word, e, code)
	}
	want(t, "Dump", s.Dump(0), "a {a {0 z 10 y}} g {s 2} out {s kept}")
	p, _ := s.Place(c, "x")
	g, _ := s.Place(0, "g")
	want(t, "one place", p, g)
	a, _ := s.Place(0, "a(0)")
	whole, is := a.Whole()
	all, _ := s.Place(0, "a")
	want(t, "the whole", whole, all)
	want(t, "an element", is, true)
}

// TestCircles: a name is linked to nothing that leads to it, whatever of that the word means.
func TestCircles(t *testing.T) {
	for _, k := range []struct {
		first, second string // what a is linked to, and what b is to be linked to
		e             api.Errno
	}{
		{"b()", "a()", api.ErrState}, {"b()", "a", api.ErrState}, {"b(1)", "a(2)", api.ErrState}, {"b", "a", api.ErrState}, {"b", "a(1)", api.ErrState}, {"b", "b", api.ErrState}, {"b", "b(1)", api.ErrState},
		{"c(1)", "a(1)", api.ErrKind}, {"c(1)", "a", api.OK}, {"c", "a(1)", api.OK}, {"c", "a", api.OK}, {"d", "a(1)", api.ErrKind}, {"c(1)", "d(1)", api.ErrKind},
	} {
		s := New()
		s.Set(0, "d", "scalar")
		room := s.Room("r")
		want(t, "Link of a to "+k.first, s.Link(room, "a", 0, k.first), api.OK)
		to := room
		if k.second[0] != 'a' {
			to = 0
		}
		want(t, "Link of b to "+k.second+", a to "+k.first, s.Link(0, "b", to, k.second), k.e)
		want(t, "Linked", s.Linked(0, "b"), k.e == api.OK)
	}
	s := New()
	s.Link(0, "a", 0, "b(1)")
	s.Set(0, "b(2)", "x")
	want(t, "what is set", s.Link(0, "b", 0, "a(1)"), api.ErrDuplicate)
	s.Unset(0, "b")
	want(t, "what is unset", s.Link(0, "b", 0, "a(1)"), api.ErrState)
	want(t, "further links", s.Link(0, "c", 0, "a"), api.OK)
	want(t, "by two links", s.Link(0, "b", 0, "c(1)"), api.ErrState)
	want(t, "elsewhere", s.Link(0, "d", 0, "b"), api.OK)
	want(t, "anew", s.Link(0, "d", 0, "e"), api.OK)
	want(t, "a link that goes elsewhere now", s.Link(0, "b", 0, "d"), api.OK)
	want(t, "an element by a link", s.Link(0, "a", 0, "a(1)"), api.ErrKind)
}

// TestCirclesOfLinks: a name that is a link now is not linked to its own variable, to which others may lead still.
func TestCirclesOfLinks(t *testing.T) {
	for _, k := range []struct {
		first, word string // what a is linked to, and what x, linked to b meanwhile, is to be linked to
		e           api.Errno
	}{
		{"x", "a", api.ErrState}, {"x", "a(1)", api.ErrState}, {"x", "a()", api.ErrState}, {"x(1)", "a", api.ErrState}, {"x(1)", "a(1)", api.ErrState}, {"x()", "a()", api.ErrState},
		{"x", "x", api.OK}, {"x", "x(1)", api.OK}, {"x", "b", api.OK}, {"x", "c", api.OK}, {"c", "a", api.OK}, {"c", "a(1)", api.OK}, {"c(1)", "a(1)", api.ErrKind}, {"d", "a(1)", api.ErrKind},
	} {
		s := New()
		s.Set(0, "d", "scalar")
		for _, room := range []int{0, s.Push(), s.Room("r")} {
			what := "Link of x to " + k.word + ", a to " + k.first + ": "
			from := 0
			if k.first[0] == 'x' {
				from = room
			}
			want(t, what+"a", s.Link(0, "a", from, k.first), api.OK)
			want(t, what+"x to b", s.Link(room, "x", 0, "b"), api.OK)
			to := 0
			if k.word[0] == 'x' {
				to = room
			}
			want(t, what+"x", s.Link(room, "x", to, k.word), k.e)
			want(t, what+"Linked", s.Linked(room, "x"), true)
			if k.e != api.OK {
				want(t, what+"Set", s.Set(room, "x", "5"), api.OK)
				want(t, what+"b, as before", value(s, 0, "b"), "5")
				want(t, what+"a", s.Kind(0, "a") == 1, k.first == "d")
			}
			s.Unset(0, "b")
		}
	}
}

// TestOwnVariables: a name keeps its own variable, however often it is linked anew, and others may be linked to that.
func TestOwnVariables(t *testing.T) {
	s, other := New(), New()
	want(t, "a to x", s.Link(0, "a", 0, "x"), api.OK)
	for _, word := range []string{"b", "c(1)", "d", "x", "b"} {
		want(t, "x to "+word, s.Link(0, "x", 0, word), api.OK)
		want(t, "x to a, behind "+word, s.Link(0, "x", 0, "a"), api.ErrState)
	}
	want(t, "further", s.Link(0, "e", 0, "a"), api.OK)
	want(t, "x by two links", s.Link(0, "x", 0, "e(1)"), api.ErrState)
	want(t, "b to a", s.Link(0, "b", 0, "a"), api.OK)
	s.Set(0, "b", "own")
	want(t, "x is linked to what b was", value(s, 0, "x"), "<none>")
	want(t, "b is what x was", value(s, 0, "a"), "own")
	want(t, "x to what is set, its own", s.Link(0, "x", 0, "b"), api.ErrState)
	want(t, "its element", s.Link(0, "x", 0, "b(1)"), api.ErrState)
	want(t, "a elsewhere", s.Link(0, "a", 0, "f"), api.OK)
	want(t, "x to a, that leads elsewhere", s.Link(0, "x", 0, "a"), api.OK)
	want(t, "in another space", other.LinkTo(0, "a", s, 0, "y"), api.OK)
	want(t, "y anew", s.Link(0, "y", 0, "g"), api.OK)
	want(t, "from another space", s.LinkTo(0, "y", other, 0, "a"), api.ErrState)
	want(t, "another name", s.LinkTo(0, "z", other, 0, "a"), api.OK)
}
