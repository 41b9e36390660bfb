package packs

import (
	"slices"
	"strings"
	"testing"

	"threadbare/api"
)

func TestVersions(t *testing.T) {
	for _, v := range []string{"0", "1.2", "1a1", "1.2b0.3", "999999999", strings.Repeat("1.", 19) + "1", "10.0.20"} {
		if !Valid(v) {
			t.Errorf("Valid(%q)", v)
		}
	}
	for _, v := range []string{"", ".", "1.", ".1", "01", "1.02", "1a", "a1", "1a1b1", "1a1a1", "1ab1", "1234567890", "1-2", " 1", "1.x", strings.Repeat("1.", 20) + "1", "1 "} {
		_, e := Compare(v, "1")
		_, e2 := Compare("1", v)
		_, e3 := Normal(v)
		_, e4 := Stable(v)
		_, e5 := Line(v)
		_, e6 := Meets(v, "")
		_, e7 := Sorted([]string{"1", v})
		_, e8 := Best([]string{"1", v}, "", false)
		for i, e := range []api.Errno{e, e2, e3, e4, e5, e6, e7, e8} {
			if e != api.ErrSyntax {
				t.Errorf("call %d of %q: %d", i, v, e)
			}
		}
	}
	for _, c := range []struct {
		a, b string
		want int
	}{{"1.10", "1.9", 1}, {"1.2b3", "1.2", -1}, {"1.2a1", "1.2b1", -1}, {"1.2", "1.2.0", 0}, {"1.2a1", "1.2a1.0", 0}, {"1.2.1", "1.2", 1}, {"2a0", "2", -1}, {"1.2b1", "1.2.0.5", -1}} {
		n, e := Compare(c.a, c.b)
		m, _ := Compare(c.b, c.a)
		if n != c.want || m != -c.want || e != 0 {
			t.Errorf("Compare(%s, %s) = %d", c.a, c.b, n)
		}
	}
	for v, want := range map[string]string{"1.0.0": "1", "0.0": "0", "1.10": "1.10", "1a0.0": "1a0", "1.0.1": "1.0.1"} {
		if s, _ := Normal(v); s != want {
			t.Errorf("Normal(%s) = %s", v, s)
		}
	}
	s, _ := Stable("1.2")
	u, _ := Stable("1b2")
	n, _ := Line("12b3.4")
	if !s || u || n != 12 {
		t.Error("Stable and Line")
	}
	l, _ := Sorted([]string{"1.10", "1.0", "1", "1a1", "1.9"})
	if strings.Join(l, " ") != "1a1 1.0 1 1.9 1.10" {
		t.Errorf("Sorted = %q", l)
	}
}

func TestRequirements(t *testing.T) {
	for _, c := range []struct {
		v, r string
		want bool
	}{{"1.3", "1.2", true}, {"2.0", "1.2", false}, {"2.0", "1.2-", true}, {"1.1", "1.2", false}, {"1.2", "1.2-1.2", true}, {"1.2.0", "1.2-1.2", true}, {"1.3", "1.2-1.2", false}, {"1.5", "1.2-1.5", false}, {"1.5a1", "1.2-1.5", true}, {"1.4", "1.5-1.2", false}, {"1", "=1.0", true}, {"1.1", "=1", false}, {"9", "", true}, {"3.1", "1.2 3-", true}, {"2", "1.2 3-", false}, {"1a2", "1a1", true}, {"1a2", "1", false}} {
		if ok, e := Meets(c.v, c.r); ok != c.want || e != 0 {
			t.Errorf("Meets(%s, %s) = %t, %d", c.v, c.r, ok, e)
		}
	}
	for _, r := range []string{" ", "1  2", " 1", "1 ", "-1", "=1-", "=", "1-2-3", "1-x", "x", "==1", "1.", "=1-2"} {
		_, e := Meets("1", r)
		_, e2 := Best(nil, r, true)
		_, e3 := Find(make([]api.Pack, 101), "a", r, true)
		if Requirement(r) || e != 2 || e2 != 2 || e3 != 2 {
			t.Errorf("Requirement(%q)", r)
		}
	}
	for _, c := range []struct {
		r      string
		stable bool
		want   string
		e      api.Errno
	}{{"", true, "1.2", 0}, {"", false, "2a1", 0}, {"2a0", true, "2a1", 0}, {"=1.0", false, "1", 0}, {"3", false, "", 8}} {
		v, e := Best([]string{"1", "1.0", "2a1", "1.2", "1.2.0"}, c.r, c.stable)
		if v != c.want || e != c.e {
			t.Errorf("Best(%q) = %q, %d", c.r, v, e)
		}
	}
}

func shelf() []api.Pack {
	return []api.Pack{
		{Name: "a", Version: "1", Needs: []api.Need{{Name: "b", Requirement: "2-"}}}, {Name: "b", Version: "1"}, {Name: "b", Version: "2.1"}, {Name: "c", Version: "1", Needs: []api.Need{{Name: "d"}}}, {Name: "d", Version: "1", Needs: []api.Need{{Name: "c"}}},
		{Name: "e", Version: "1", Needs: []api.Need{{Name: "b", Requirement: "=1"}, {Name: "zz", Requirement: "1"}}}, {Name: "f", Version: "2", Needs: []api.Need{{Name: "e"}}}, {Name: "f", Version: "1", Needs: []api.Need{{Name: "f", Requirement: "1"}, {Name: "a"}}}, {Name: "g", Version: "1", Needs: []api.Need{{Name: "zz", Requirement: "1"}}}, {Name: "b", Version: "3a1"},
	}
}

func TestShelf(t *testing.T) {
	l := shelf()
	for _, bad := range [][]api.Pack{make([]api.Pack, 101), {{Name: "", Version: "1"}}, {{Name: "A", Version: "1"}}, {{Name: "1a", Version: "1"}}, {{Name: strings.Repeat("a", 41), Version: "1"}}, {{Name: "a", Version: "x"}}, {{Name: "a", Version: "1"}, {Name: "a", Version: "1.0"}}, {{Name: "a", Version: "1", Needs: make([]api.Need, 11)}}, {{Name: "a", Version: "1", Needs: []api.Need{{Name: "a", Requirement: "x"}}}}, {{Name: "a", Version: "1", Needs: []api.Need{{}}}}} {
		_, e := Find(bad, "a", "", true)
		_, e2 := Names(bad)
		_, e3 := Missing(bad)
		_, e4 := Closed(bad, []int{-1})
		_, e5 := Choose(bad, nil, true)
		_, e6 := Order(bad, []int{-1})
		_, e7 := Serves(bad, nil, api.Need{Name: "a"})
		if ValidShelf(bad) || e != 1 || e2 != 1 || e3 != 1 || e4 != 1 || e5 != 1 || e6 != 1 || e7 != 1 {
			t.Errorf("%v is a shelf", bad[0])
		}
	}
	if !ValidShelf(l) || !ValidShelf(nil) || !ValidShelf([]api.Pack{{Name: "a_:9", Version: "1"}}) {
		t.Error("ValidShelf")
	}
	for _, c := range []struct {
		name, r string
		stable  bool
		want    int
		e       api.Errno
	}{{"b", "", true, 2, 0}, {"b", "", false, 9, 0}, {"b", "1", true, 1, 0}, {"b", "4", true, 0, 8}, {"q", "", true, 0, 5}} {
		if i, e := Find(l, c.name, c.r, c.stable); i != c.want || e != c.e {
			t.Errorf("Find(%s, %s) = %d, %d", c.name, c.r, i, e)
		}
	}
	names, _ := Names(l)
	missing, _ := Missing(l)
	if strings.Join(names, "") != "abcdefg" || !slices.Equal(missing, []api.Need{{Name: "zz", Requirement: "1"}}) {
		t.Errorf("Names %q, Missing %v", names, missing)
	}
	for _, c := range [][]int{{1, 0}, {0, 0}, {-1}, {10}, {1, 2}} {
		_, e := Closed(l, c)
		_, e2 := Order(l, c)
		_, e3 := Serves(l, c, api.Need{Name: "a"})
		if e != 7 || e2 != 7 || e3 != 7 {
			t.Errorf("the choice %v", c)
		}
	}
	yes, _ := Closed(l, []int{0, 2})
	no, _ := Closed(l, []int{0, 1})
	serves, _ := Serves(l, []int{0, 2}, api.Need{Name: "b", Requirement: "2"})
	if !yes || no || !serves {
		t.Error("Closed and Serves")
	}
	if _, e := Serves(l, nil, api.Need{Name: "a", Requirement: "x"}); e != api.ErrInvalid {
		t.Error("Serves of no need")
	}
	for _, c := range []struct {
		wanted []api.Need
		want   []int
		e      api.Errno
	}{{[]api.Need{{Name: "a"}}, []int{0, 2}, 0}, {[]api.Need{{Name: "c"}}, []int{3, 4}, 0}, {[]api.Need{{Name: "b", Requirement: "1"}, {Name: "a"}}, nil, 8}, {[]api.Need{{Name: "f"}}, []int{0, 2, 7}, 0}, {[]api.Need{{Name: "e"}}, nil, 8}, {nil, nil, 0}, {make([]api.Need, 1), nil, 1}, {slices.Repeat([]api.Need{{Name: "a"}}, 11), nil, 1}} {
		got, e := Choose(l, c.wanted, true)
		if !slices.Equal(got, c.want) || e != c.e {
			t.Errorf("Choose(%v) = %v, %d", c.wanted, got, e)
		}
	}
	for _, c := range []struct {
		choice, want []int
		e            api.Errno
	}{{[]int{0, 2}, []int{2, 0}, 0}, {[]int{3, 4}, []int{3, 4}, 0}, {[]int{0, 2, 7}, []int{2, 0, 7}, 0}, {[]int{0}, nil, 9}, {nil, nil, 0}} {
		got, e := Order(l, c.choice)
		if !slices.Equal(got, c.want) || e != c.e {
			t.Errorf("Order(%v) = %v, %d", c.choice, got, e)
		}
	}
	var hard []api.Pack
	for i := range 12 {
		n := api.Need{Name: "p" + string(rune('a'+i+1))}
		for _, v := range []string{"1", "2"} {
			hard = append(hard, api.Pack{Name: "p" + string(rune('a'+i)), Version: v, Needs: []api.Need{n}})
		}
	}
	if got, e := Choose(hard, []api.Need{{Name: "pa"}}, true); got != nil || e != api.ErrLimit {
		t.Errorf("Choose of too much: %v, %d", got, e)
	}
	for path, want := range map[string][2]string{"a/b-1.2.tm": {"a::b", "1.2"}, "x-y-1a1.tm": {"", ""}, "x_y-1a1.tm": {"x_y", "1a1"}, "a:-1.tm": {"a:", "1"}} {
		name, v, e := Module(path)
		if (e == 0) != (want[0] != "") || name != want[0] || v != want[1] {
			t.Errorf("Module(%q) = %q, %q, %d", path, name, v, e)
		}
	}
	for _, path := range []string{"", "a", "a-1", "a.tm", "-1.tm", "/a-1.tm", "a//b-1.tm", "A-1.tm", "a-x.tm", "a-1.tm/", strings.Repeat("a", 41) + "-1.tm"} {
		if _, _, e := Module(path); e != api.ErrSyntax {
			t.Errorf("Module(%q): %d", path, e)
		}
	}
}
