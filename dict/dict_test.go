package dict

import (
	"slices"
	"strings"
	"testing"

	"threadbare/api"
)

func check(t *testing.T, what, got string, e api.Errno, want string, code api.Errno) {
	t.Helper()
	if got != want || e != code {
		t.Errorf("%s: %q, %d, not %q, %d", what, got, e, want, code)
	}
}

var long = strings.Repeat("x", 65537)

func TestForms(t *testing.T) {
	for s, want := range map[string]string{"": "", "a 1 b 2 a 3": "a 3 b 2", " a  {1} ": "a 1", "{a b} {c d}": "{a b} {c d}"} {
		got, e := Canonical(s)
		check(t, "Canonical", got, e, want, 0)
		if !Valid(s) || !Alike(s, want) {
			t.Errorf("Valid or Alike of %q", s)
		}
	}
	for _, s := range []string{"a", "{", "a b c", strings.Repeat("a ", 10002)} {
		if Valid(s) || Alike(s, s) || Exists(s, nil) || Exists(s, []string{"a"}) {
			t.Errorf("%.20q is a dictionary", s)
		}
		for i, do := range []func() api.Errno{
			func() api.Errno { _, e := Canonical(s); return e }, func() api.Errno { _, e := Size(s); return e }, func() api.Errno { _, e := Get(s, []string{"a"}); return e },
			func() api.Errno { _, e := Set(s, nil, ""); return e }, func() api.Errno { _, e := Unset(s, nil); return e }, func() api.Errno { _, e := Keys(s, "*"); return e }, func() api.Errno { _, e := Values(s, "*"); return e },
			func() api.Errno { _, e := Merge([]string{"", s}); return e }, func() api.Errno { _, e := Remove(s, nil); return e }, func() api.Errno { _, e := Filter(s, "*", true); return e }, func() api.Errno { _, e := Pairs(s); return e }, func() api.Errno { _, e := Invert(s); return e },
		} {
			if e := do(); e != api.ErrKind {
				t.Errorf("call %d: %d", i, e)
			}
		}
	}
	if n, e := Size("a 1 b 2 a 3"); n != 2 || e != api.OK {
		t.Errorf("Size = %d, %d", n, e)
	}
	l, e := Pairs("a 1 b 2 a 3")
	if e != api.OK || !slices.Equal(l, []string{"a", "3", "b", "2"}) {
		t.Errorf("Pairs = %q", l)
	}
}

func TestPaths(t *testing.T) {
	for _, c := range []struct {
		s    string
		path []string
		want string
		e    api.Errno
	}{
		{"a {b 1 c 2} d 3", []string{"a", "c"}, "2", 0}, {"b 1  b 2", nil, "b 2", 0}, {"a 1", []string{"b"}, "", api.ErrNone}, {"a x", []string{"a", "x"}, "", api.ErrKind}, {"a {b 1}", []string{"a"}, "b 1", 0}, {"a {x 1}", []string{"b", "x"}, "", api.ErrNone}, {"a " + long, []string{"a"}, "", api.ErrLimit},
	} {
		got, e := Get(c.s, c.path)
		check(t, "Get", got, e, c.want, c.e)
		if Exists(c.s, c.path) != (c.e == api.OK || c.e == api.ErrLimit) {
			t.Errorf("Exists(%.20q, %q)", c.s, c.path)
		}
	}
	for _, c := range []struct {
		s     string
		path  []string
		value string
		want  string
		e     api.Errno
	}{
		{"", []string{"x", "y"}, "5", "x {y 5}", 0}, {"a 1 b 2", []string{"a"}, "x y", "a {x y} b 2", 0}, {"a 1", []string{"b"}, "2", "a 1 b 2", 0}, {"a 1 a 2 b 3", []string{"a"}, "4", "a 4 b 3", 0}, {"a {b  1}", []string{"a", "c"}, "2", "a {b 1 c 2}", 0},
		{"", nil, "1", "", api.ErrRange}, {"a", nil, "1", "", api.ErrKind}, {"a x", []string{"a", "b"}, "1", "", api.ErrKind}, {"a {b x}", []string{"a", "b", "c"}, "1", "", api.ErrKind}, {"a x", []string{"a"}, "1", "a 1", 0}, {"", []string{"a"}, long, "", api.ErrLimit}, {strings.Repeat("a ", 2) + "b " + long, []string{"b"}, "1", "a a b 1", 0},
	} {
		got, e := Set(c.s, c.path, c.value)
		check(t, "Set", got, e, c.want, c.e)
		if e == api.OK {
			back, e := Get(got, c.path)
			check(t, "Get of Set", back, e, c.value, 0)
		}
	}
	for _, c := range []struct {
		s    string
		path []string
		want string
		e    api.Errno
	}{
		{"a 1 b 2", []string{"a"}, "b 2", 0}, {"a 1  a 2", []string{"x"}, "a 2", 0}, {"a {b  1 c 2}", []string{"a", "c"}, "a {b 1}", 0}, {"a {b  1}", []string{"a", "c"}, "a {b 1}", 0}, {"a 1", nil, "", api.ErrRange}, {"a", nil, "", api.ErrKind},
		{"a 1", []string{"b", "c"}, "", api.ErrNone}, {"a x", []string{"a", "c"}, "", api.ErrKind}, {"a x", []string{"a", "c", "d"}, "", api.ErrKind}, {"a {b 1}", []string{"a", "c", "d"}, "", api.ErrNone},
	} {
		got, e := Unset(c.s, c.path)
		check(t, "Unset", got, e, c.want, c.e)
	}
}

func TestOthers(t *testing.T) {
	s, e := Merge([]string{"a 1 b 2", "c 3 a 4", ""})
	check(t, "Merge", s, e, "a 4 b 2 c 3", 0)
	s, e = Merge(nil)
	check(t, "Merge of none", s, e, "", 0)
	s, e = Remove("a 1 b 2 c 3", []string{"c", "x", "a"})
	check(t, "Remove", s, e, "b 2", 0)
	s, e = Filter("ax 1 b ax ay 2", "a*", false)
	check(t, "Filter keys", s, e, "ax 1 ay 2", 0)
	s, e = Filter("ax 1 b ax ay 2", "a*", true)
	check(t, "Filter values", s, e, "b ax", 0)
	s, e = Create([]string{"a", "1", "b", "2", "a", "3"})
	check(t, "Create", s, e, "a 3 b 2", 0)
	s, e = Create([]string{"a"})
	check(t, "Create of one", s, e, "", api.ErrInvalid)
	many := slices.Repeat([]string{"a", "b"}, 6000)
	s, e = Create(many)
	check(t, "Create of many alike", s, e, "a b", 0)
	s, e = Create([]string{"a", long})
	check(t, "Create of too long a value", s, e, "", api.ErrLimit)
	s, e = Invert("a 1 b 2 c 1")
	check(t, "Invert", s, e, "1 c 2 b", 0)
	k, _ := Keys("ax 1 b 2 ay 3 ax 4", "a*")
	v, _ := Values("ax 1 b 2 ay 1 ax 4", "[14]")
	if !slices.Equal(k, []string{"ax", "ay"}) || !slices.Equal(v, []string{"4", "1"}) {
		t.Errorf("Keys %q, Values %q", k, v)
	}
	for _, c := range []struct {
		a, b string
		want bool
	}{{"a 1 b 2", "b 2 a 1", true}, {"a 1", "a 2", false}, {"a 1", "a 1 b 2", false}, {"a 1", "b 1", false}, {"a 1 a 2", "a 2", true}, {"a", "a", false}, {"", "", true}} {
		if Alike(c.a, c.b) != c.want || Alike(c.b, c.a) != c.want {
			t.Errorf("Alike(%q, %q)", c.a, c.b)
		}
	}
	a, b, c := "a 1 b 2", "b 3 c 4", "c 5 d 6"
	ab, _ := Merge([]string{a, b})
	bc, _ := Merge([]string{b, c})
	left, _ := Merge([]string{ab, c})
	right, _ := Merge([]string{a, bc})
	itself, _ := Merge([]string{a, a, "b 2"})
	if left != right || itself != a {
		t.Errorf("Merge: %q, %q, %q", left, right, itself)
	}
}

func TestLongPaths(t *testing.T) {
	path := slices.Repeat([]string{"k"}, 1000000)
	s, e := Set("", path, "v")
	check(t, "Set of a path without end", s, e, "", api.ErrLimit)
	s, e = Set("k x", path, "v")
	check(t, "Set of such a path through no dictionary", s, e, "", api.ErrKind)
	s, e = Set("k {k 1 j 2}", path[:2], "v")
	check(t, "Set", s, e, "k {k v j 2}", 0)
}
