package list

import (
	"math/rand"
	"slices"
	"strconv"
	"testing"

	"threadbare/api"
)

func word(r *rand.Rand) string {
	s := ""
	for range r.Intn(6) {
		s += []string{"a", "b", " ", "{", "}", "\\", "\n", "#", "\"", "$", "[", "]", ";", "\t", "\x00", "\xff"}[r.Intn(16)]
	}
	return s
}

func TestLaws(t *testing.T) {
	r := rand.New(rand.NewSource(1))
	for range 20000 {
		var l []string
		for range r.Intn(5) {
			l = append(l, word(r))
		}
		s, e := Join(l)
		back, _, e2 := Split(s)
		if e != api.OK || e2 != api.OK || !slices.Equal(back, l) || !IsCanonical(s) {
			t.Fatalf("%q: %q, %q", l, s, back)
		}
		text := word(r) + " " + word(r)
		if c, e := Canonical(text); e == api.OK {
			a, _, _ := Split(text)
			b, _, _ := Split(c)
			if !slices.Equal(a, b) || !IsCanonical(c) {
				t.Fatalf("Canonical(%q) = %q", text, c)
			}
		} else if Valid(text) {
			t.Fatalf("%q is a list", text)
		}
		if len(l) == 0 {
			continue
		}
		at := r.Intn(len(l))
		set, _ := Set(s, []string{strconv.Itoa(at)}, "new one")
		for i := range l {
			want := l[i]
			if i == at {
				want = "new one"
			}
			if got, _ := Index(set, []string{strconv.Itoa(i)}); got != want {
				t.Fatalf("element %d of %q: %q, not %q", i, set, got, want)
			}
		}
		before, _ := Range(s, "0", strconv.Itoa(at-1))
		here, _ := Range(s, strconv.Itoa(at), strconv.Itoa(at))
		behind, _ := Range(s, strconv.Itoa(at+1), "end")
		if got := Concat([]string{before, here, behind}); got != s {
			t.Fatalf("%q in pieces: %q", s, got)
		}
		if n, _ := Search(s, l[at], 0, 0); n != slices.Index(l, l[at]) {
			t.Fatalf("Search(%q, %q) = %d", s, l[at], n)
		}
	}
}
