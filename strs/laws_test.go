package strs

import (
	"math/rand"
	"testing"

	"threadbare/core"
	"threadbare/list"
)

func eval(t *testing.T, x *core.Machine, words ...string) string {
	t.Helper()
	s, _ := list.Join(words)
	o := x.Eval(s, 100)
	if o.Code != 0 {
		t.Fatalf("%s: %v", s, o)
	}
	return o.Text
}

func TestLaws(t *testing.T) {
	r := rand.New(rand.NewSource(5))
	text := func() string {
		s := ""
		for range r.Intn(8) {
			s += []string{"a", "B", " ", "{", "\\", "\xff", "$x", "\n", "%"}[r.Intn(9)]
		}
		return s
	}
	x := New()
	for range 300 {
		a, b := text(), text()
		if eval(t, x, "string", "reverse", eval(t, x, "string", "reverse", a)) != a {
			t.Errorf("reversed twice: %q", a)
		}
		if both := eval(t, x, "string", "cat", a, b); eval(t, x, "string", "length", both) != eval(t, x, "expr", eval(t, x, "string", "length", a)+"+"+eval(t, x, "string", "length", b)) {
			t.Errorf("lengths of %q and %q", a, b)
		}
		if eval(t, x, "string", "range", eval(t, x, "string", "insert", a, "0", "mark"), "0", "3") != "mark" {
			t.Errorf("put into %q", a)
		}
		order := eval(t, x, "string", "equal", a+"x", b+"x")
		if (order == "1") != (eval(t, x, "string", "compare", a+"x", b+"x") == "0") {
			t.Errorf("equal and compare of %q and %q", a, b)
		}
		for _, kind := range []string{"hex", "base64", "percent"} {
			if eval(t, x, "binary", "decode", kind, eval(t, x, "binary", "encode", kind, a)) != a {
				t.Errorf("%s of %q", kind, a)
			}
		}
		bytes, _, _ := list.Split(eval(t, x, "ascii", a))
		if eval(t, x, append([]string{"char"}, bytes...)...) != a {
			t.Errorf("char of ascii of %q", a)
		}
		n, m := eval(t, x, "expr", "-5 + "+eval(t, x, "string", "length", a)), "123456789012345678901234567890"
		if eval(t, x, "scan", eval(t, x, "format", "%d %x %o %b", n, m, n, m), "%d %x %o %b") != n+" "+m+" "+n+" "+m {
			t.Errorf("scan of format of %s", n)
		}
	}
}
