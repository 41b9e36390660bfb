package names

import (
	"strings"
	"testing"

	"threadbare/api"
)

func TestPaths(t *testing.T) {
	for path, want := range map[string][4]string{
		"": {"", "::", "::", ""}, "::": {"", "::", "::", ""}, "a": {"a", "::a", "::", "a"}, "a::": {"a", "::a", "::a", ""}, "b:::c": {"b c", "::b::c", "::b", "c"}, "::a::b": {"a b", "::a::b", "::a", "b"}, "a:b": {"a:b", "::a:b", "::", "a:b"}, ":a:": {"a", "::a", "::", ":a:"}, ":": {"", "::", "::", ":"}, "::::x::::": {"x", "::x", "::x", ""}, ":a::b:": {"a b", "::a::b", "::a", "b:"}, "::::": {"", "::", "::", ""}, ":::a": {"a", "::a", "::", "a"}, "a::b:c::d": {"a b:c d", "::a::b:c::d", "::a::b:c", "d"},
	} {
		got := [4]string{strings.Join(Parts(path), " "), Canonical("", path), Head(path), Tail(path)}
		if got != want {
			t.Errorf("%q: %q, not %q", path, got, want)
		}
		c := Canonical("x", path)
		if Canonical("y", c) != c {
			t.Errorf("Canonical of %q is not canonical", c)
		}
		if Tail(path) != "" && Canonical(Head(path), Tail(path)) != Canonical("", path) {
			t.Errorf("head and tail of %q", path)
		}
	}
	if Canonical("::a", "b:::c") != "::a::b::c" || Canonical("a::", "::b") != "::b" || Canonical("::a", "") != "::a" || Canonical("::a", ":b") != "::a::b" {
		t.Error("Canonical in a namespace")
	}
	if !Absolute("::") || Absolute(":a") || Absolute("") || !Absolute(":::a") {
		t.Error("Absolute")
	}
}

func TestTree(t *testing.T) {
	x := New()
	x.Make("a::b::c")
	x.Make("::ab")
	x.Make("a::d")
	x.Make("a::d")
	if got := strings.Join(x.All(), " "); got != ":: ::a ::a::b ::a::b::c ::a::d ::ab" {
		t.Errorf("All = %s", got)
	}
	l, e := x.Children("a", "*")
	m, _ := x.Children("::", "?")
	if strings.Join(l, " ") != "::a::b ::a::d" || e != 0 || strings.Join(m, " ") != "::a" {
		t.Errorf("Children = %q, %q", l, m)
	}
	if x.SetSearch("a", []string{"ab", "::a::d", "ab"}) != 0 || x.SetSearch("a", []string{"ab", "q"}) != api.ErrNone || x.SetSearch("q", nil) != api.ErrNone {
		t.Error("SetSearch")
	}
	s, _ := x.Search("::a")
	if strings.Join(s, " ") != "::ab ::a::d ::ab" {
		t.Errorf("Search = %q", s)
	}
	s[0] = "changed"
	c, e := x.Candidates("a", "f")
	if strings.Join(c, " ") != "::a::f ::ab::f ::a::d::f ::f" || e != 0 {
		t.Errorf("Candidates = %q", c)
	}
	c, _ = x.Candidates("a", "::g:::h")
	d, _ := x.Candidates("::", "f")
	b, _ := x.Candidates("::a::b", "g::")
	if strings.Join(c, " ") != "::g::h" || strings.Join(d, " ") != "::f" || strings.Join(b, " ") != "::a::b::g ::g" {
		t.Errorf("Candidates = %q, %q, %q", c, d, b)
	}
	gone, e := x.Delete("a::d")
	if strings.Join(gone, " ") != "::a::d" || e != 0 {
		t.Errorf("Delete = %q", gone)
	}
	c, _ = x.Candidates("a", "f")
	s, _ = x.Search("a")
	if strings.Join(c, " ") != "::a::f ::ab::f ::f" || len(s) != 3 {
		t.Errorf("behind Delete: %q, %q", c, s)
	}
	x.Export("a", []string{"f*", "g", "f*"}, false)
	x.Export("a", []string{"g", "h"}, false)
	p, _ := x.Patterns("a")
	if strings.Join(p, " ") != "f* g h" || !x.Exports("a", "foo") || x.Exports("a", "x") || x.Exports("q", "f") {
		t.Errorf("Patterns = %q", p)
	}
	x.Export("a", []string{"z"}, true)
	p, _ = x.Patterns("a")
	if strings.Join(p, " ") != "z" {
		t.Errorf("Patterns = %q", p)
	}
	u, e := x.Unknown("a")
	if u != "" || e != 0 || x.SetUnknown("a", "u v") != 0 {
		t.Error("Unknown")
	}
	if u, _ := x.Unknown("::a"); u != "u v" {
		t.Error("SetUnknown")
	}
	x.Export("::", []string{"q"}, false)
	gone, _ = x.Delete("::")
	p, _ = x.Patterns("::")
	if strings.Join(gone, " ") != "::a ::a::b ::a::b::c ::ab" || len(x.All()) != 1 || !x.Exists("") || len(p) != 0 {
		t.Errorf("Delete of :: = %q", gone)
	}
	var none *Tree
	for _, tree := range []*Tree{x, none} {
		_, e := tree.Delete("q")
		_, e2 := tree.Children("q", "*")
		_, e3 := tree.Search("q")
		_, e4 := tree.Patterns("q")
		_, e5 := tree.Candidates("q", "::f")
		_, e6 := tree.Unknown("q")
		for i, e := range []api.Errno{e, e2, e3, e4, e5, e6, tree.SetSearch("q", nil), tree.Export("q", nil, false), tree.SetUnknown("q", "")} {
			if e != api.ErrNone {
				t.Errorf("call %d: %d", i, e)
			}
		}
		if tree.Exists("q") || tree.Exports("q", "") {
			t.Error("a namespace that is not there")
		}
	}
	if none.Make("a") != api.ErrNone || none.All() != nil {
		t.Error("a nil tree")
	}
}
