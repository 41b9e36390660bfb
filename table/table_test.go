package table

import (
	"fmt"
	"slices"
	"strings"
	"testing"

	"threadbare/api"
)

func TestTable(t *testing.T) {
	x := New()
	epoch := 0
	changes := func(n int) {
		t.Helper()
		if x.Epoch()-epoch != n {
			t.Errorf("%d changes, not %d", x.Epoch()-epoch, n)
		}
		epoch = x.Epoch()
	}
	told := func(want string, got ...any) {
		t.Helper()
		if s := strings.TrimSuffix(fmt.Sprintln(got...), "\n"); s != want {
			t.Errorf("%s, not %s", s, want)
		}
	}
	n, gone := x.Define("f")
	told("1 []", n, gone)
	m, gone, e := x.Import("g", 1)
	told("2 [] 0", m, gone, e)
	told("0", x.Rename("f", "h"))
	changes(3)
	told("1 0", x.Find("h"), x.Find("f"))
	o, e := x.Origin(2)
	told("1 0", o, e)
	x.Import("k", 2)
	x.Import("l", 1)
	told("[2 4] [3] []", x.Imports(1), x.Imports(2), x.Imports(9))
	_, _, e = x.Import("h", 3)
	_, _, e2 := x.Import("g", 2)
	_, _, e3 := x.Import("z", 9)
	told("9 9 8", e, e2, e3)
	changes(2)
	name, hidden, there := x.Name(3)
	told("k false true", name, hidden, there)
	told("8 6 6 8 6", x.Rename("q", "h"), x.Rename("h", "g"), x.Rename("h", "h"), x.Hide("q", "a"), x.Hide("h", "a")+x.Hide("g", "a"))
	changes(1)
	name, hidden, there = x.Name(1)
	told("a true true 1 0", name, hidden, there, x.FindHidden("a"), x.Find("h"))
	o, _ = x.Origin(3)
	told("1 [g k l] [a] 4", o, x.Names("*"), x.Hidden("?"), x.Count())
	told("8 6 0", x.Expose("q", "h"), x.Expose("a", "g"), x.Expose("a", "h"))
	changes(1)
	n, gone = x.Define("g")
	told("5 [2 3]", n, gone)
	changes(1)
	told("[4] 2 [h l] 3", x.Imports(1), x.Count()-1, x.Names("[hl]"), x.Count())
	gone, e = x.Delete("h")
	told("[1 4] 0", gone, e)
	gone, e = x.Delete("h")
	told("[] 8 1", gone, e, x.Count())
	changes(1)
	name, hidden, there = x.Name(4)
	_, e = x.Origin(4)
	told(" false false 8", name, hidden, there, e)
	n, _ = x.Define("")
	m, gone, _ = x.Import("i", 5)
	told("6 7 []", n, m, gone)
	_, gone, _ = x.Import("g", 6)
	told("[5 7]", gone)
	if !slices.Equal(x.Names("*"), []string{"", "g"}) {
		t.Errorf("Names = %q", x.Names("*"))
	}
	var none *Table
	n, gone = none.Define("a")
	_, _, e = none.Import("a", 1)
	_, e2 = none.Delete("a")
	_, e3 = none.Origin(1)
	if n != 0 || gone != nil || e != api.ErrNone || e2 != 8 || e3 != 8 || none.Rename("a", "b") != 8 || none.Find("a")+none.FindHidden("a")+none.Epoch()+none.Count() != 0 || none.Names("*") != nil || none.Hidden("*") != nil || none.Imports(1) != nil {
		t.Error("a nil table")
	}
}
