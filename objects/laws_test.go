package objects

import (
	"math/rand"
	"slices"
	"strings"
	"testing"
)

// written is the mixed order before anything that comes twice is left out.
func written(supers, mixins [][]int, class int) []int {
	var out []int
	l, _ := Order(supers, class)
	for _, c := range l {
		for _, m := range mixins[c] {
			out = append(out, written(supers, mixins, m)...)
		}
		out = append(out, c)
	}
	return out
}

func TestOrderLaws(t *testing.T) {
	r := rand.New(rand.NewSource(2))
	for range 500 {
		n := 1 + r.Intn(8)
		supers, mixins := make([][]int, n), make([][]int, n)
		for i := range n {
			for k := i + 1; k < n; k++ {
				if r.Intn(3) == 0 {
					supers[i] = append(supers[i], k)
				} else if r.Intn(4) == 0 {
					mixins[i] = append(mixins[i], k)
				}
			}
		}
		l, e := Order(supers, 0)
		if e != 0 || l[0] != 0 {
			t.Fatalf("Order(%v) = %v, %d", supers, l, e)
		}
		for i, c := range l {
			if slices.Contains(l[i+1:], c) {
				t.Fatalf("Order(%v) = %v: twice", supers, l)
			}
			for _, s := range supers[c] {
				if !slices.Contains(l[i+1:], s) {
					t.Fatalf("Order(%v) = %v: %d does not stand before %d", supers, l, c, s)
				}
			}
		}
		m, e := Mixed(supers, mixins, 0)
		if want := firstPlaces(written(supers, mixins, 0)); e != 0 || !slices.Equal(m, want) {
			t.Fatalf("Mixed(%v, %v) = %v, %d, not %v", supers, mixins, m, e, want)
		}
		for i, c := range m {
			if slices.Contains(m[i+1:], c) {
				t.Fatalf("Mixed = %v: twice", m)
			}
			for _, k := range mixins[c] {
				if !slices.Contains(m[:i], k) {
					t.Fatalf("Mixed(%v, %v) = %v: %d comes behind what it is mixed into", supers, mixins, m, k)
				}
			}
		}
	}
}

func TestLaws(t *testing.T) {
	const classes = "class create a {{method f args {return a$args}}}; class create b {{superclass a}}; class create c {{superclass b}}; class create m {}; class create d {{superclass c} {method g x {list g $x [my f $x]}} {method e {} {error e}} {constructor args {set ::made $args}}}; "
	through := "foreach k {b c m} {class define $k method f args {next {*}$args}}; class define d mixin m; "
	filter := "class define a method pass args {next {*}$args}; class define d filter pass; "
	for _, s := range []string{"[d new] f 1 2", "[d new] g 5", "catch {[d new] e} x; set x", "[d new] q", "d create o z; list $made [o f]", "object isa [d new] a"} {
		plain := New().Eval(classes+s, 1000)
		if o := New().Eval(classes+through+s, 1000); o != plain {
			t.Errorf("%q through methods that do next: %v, not %v", s, o, plain)
		}
		if o := New().Eval(classes+filter+s, 1000); o != plain {
			t.Errorf("%q through a filter: %v, not %v", s, o, plain)
		}
	}
	x := New()
	x.Eval(classes+"class create v {{field n} {method put s {set n $s} } {method get {} {set n}}}; v create p; v create q; p put 1; q put 2", 500)
	if o := x.Eval("list [p get] [q get]", 100); o.Text != "1 2" {
		t.Errorf("variables apart: %v", o)
	}
	x.Eval("class delete v", 100)
	if o := x.Eval("list [info commands {[pqv]}] [catch {p get}]", 100); o.Text != "{} 1" || strings.Contains(x.Dump(), "oo::1") {
		t.Errorf("objects are gone with their class: %v, %s", o, x.Dump())
	}
}
