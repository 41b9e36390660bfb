package parse

import (
	"math/rand"
	"strings"
	"testing"

	"threadbare/api"
	"threadbare/list"
)

func piece(r *rand.Rand, n int) string {
	s := ""
	for range r.Intn(n) {
		s += []string{"a", "b", " ", "{", "}", "\\", "\n", "#", "\"", "$", "[", "]", ";", "(", ")", "{*}", "${", "x"}[r.Intn(18)]
	}
	return s
}

func TestLaws(t *testing.T) {
	r := rand.New(rand.NewSource(1))
	right := 0
	for range 40000 {
		words := []string{piece(r, 5), piece(r, 5), piece(r, 3)}
		l, _, e := Script(Quoted(words))
		if e != api.OK || len(l) != 1 || len(l[0].Words) != 3 {
			t.Fatalf("%q: %d commands, %d", words, len(l), e)
		}
		for i, w := range l[0].Words {
			if s, ok := Literal(w); !ok || s != words[i] {
				t.Fatalf("%q came back as %q", words[i], s)
			}
		}
		if joined, _ := list.Join(words); joined != Quoted(words) {
			t.Fatalf("Quoted(%q) = %q, not %q", words, Quoted(words), joined)
		}
		a, b := piece(r, 8), piece(r, 8)
		x, _, e := Script(a)
		y, _, e2 := Script(b)
		if e != api.OK && !Complete(a) {
			// more text may make it right, so it was not before
			if _, _, e := Script(a); e == api.OK {
				t.Fatalf("%q is right and not complete", a)
			}
		}
		last := -1
		for _, c := range x {
			if c.At <= last || strings.IndexByte(" \t\n;#", a[c.At]) >= 0 {
				t.Fatalf("a command of %q begins at %d", a, c.At)
			}
			last = c.At
		}
		if e != api.OK || e2 != api.OK || strings.HasSuffix(a, "\\") {
			continue
		}
		right++
		both, _, e := Script(a + "\n" + b)
		for i := range y {
			y[i].At += len(a) + 1
		}
		if e != api.OK || Show(both) != Show(x)+Show(y) {
			t.Fatalf("%q and %q: %d\n%s", a, b, e, Show(both))
		}
	}
	if right < 1000 {
		t.Errorf("only %d pairs were right", right)
	}
}
