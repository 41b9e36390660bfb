package lists

import (
	"math/rand"
	"slices"
	"strconv"
	"testing"

	"threadbare/core"
	"threadbare/list"
)

func eval(t *testing.T, x *core.Machine, words ...string) string {
	t.Helper()
	s, _ := list.Join(words)
	o := x.Eval(s, 5000)
	if o.Code != 0 {
		t.Fatalf("%s: %v", s, o)
	}
	return o.Text
}

func TestLaws(t *testing.T) {
	r := rand.New(rand.NewSource(5))
	x := New()
	eval(t, x, "proc", "compare", "a b", "string compare $a $b")
	for range 200 {
		var l []string
		for range 2 + r.Intn(6) {
			l = append(l, []string{"a", "b c", "", "10", "9", "{", "A"}[r.Intn(7)])
		}
		s, _ := list.Join(l)
		if got := eval(t, x, "split", eval(t, x, "join", s, ","), ","); got != s {
			t.Errorf("split of join: %q, not %q", got, s)
		}
		text := "a,b,," + l[0] + ","
		if got := eval(t, x, "join", eval(t, x, "split", text, ","), ","); got != text {
			t.Errorf("join of split: %q, not %q", got, text)
		}
		for _, down := range []string{"-increasing", "-decreasing"} {
			for _, unique := range []string{"-ascii", "-unique"} {
				a, b := eval(t, x, "lsort", unique, "-command", "compare", down, s), eval(t, x, "lsort", "-ascii", unique, down, s)
				if unique == "-ascii" {
					a = eval(t, x, "lsort", unique, down, "-command", "compare", s)
				}
				if a != b {
					t.Errorf("lsort %s %s of %q: %q, not %q", down, unique, s, a, b)
				}
			}
		}
		at := strconv.Itoa(r.Intn(len(l)))
		eval(t, x, "set", "v", s)
		eval(t, x, "lset", "v", at, "new one")
		if got := eval(t, x, "lindex", eval(t, x, "set", "v"), at); got != "new one" {
			t.Errorf("lindex of lset: %q", got)
		}
		eval(t, x, "lassign", s, "p", "q")
		if eval(t, x, "set", "p") != l[0] || eval(t, x, "set", "q") != l[1] {
			t.Errorf("lassign of %q", s)
		}
		other, _ := list.Join(slices.Repeat([]string{"z"}, len(l)))
		zipped, _, _ := list.Split(eval(t, x, "lzip", s, other))
		if got := eval(t, x, append([]string{"lzip"}, zipped...)...); got != eval(t, x, "list", s, other) {
			t.Errorf("lzip twice: %q", got)
		}
	}
	if eval(t, x, "lfold", "a", "e", "0", "1 2 3 -9", "expr {$a + $e}") != eval(t, x, "lsum", "1 2 3 -9") {
		t.Error("lfold that adds")
	}
}
