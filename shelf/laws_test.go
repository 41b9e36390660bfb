package shelf

import (
	"math/rand"
	"strings"
	"testing"

	"threadbare/list"
	"threadbare/packs"
)

func TestLaws(t *testing.T) {
	r := rand.New(rand.NewSource(8))
	versions := strings.Fields("1 1.1 1.2b1 2 2.1 3a1")
	for range 100 {
		x := New()
		var l []string
		for range 1 + r.Intn(4) {
			v := versions[r.Intn(len(versions))]
			x.Eval("package ifneeded p "+v+" {incr loaded; package provide p "+v+"}", 100)
			l = append(l, v)
		}
		req := []string{"", "1", "2-", "1-3", "=2"}[r.Intn(5)]
		best, _ := packs.Best(l, req, true)
		o := x.Eval("package require p "+req, 100)
		if best == "" && o.Text != "package: p" || best != "" && o.Text != best {
			t.Fatalf("require of %q among %q: %v, not %q", req, l, o, best)
		}
		if best != "" {
			if o := x.Eval("package require p; list [package present p] $loaded", 100); o.Text != best+" 1" {
				t.Fatalf("required again: %v", o)
			}
		}
	}
	x := New()
	x.Eval("package require sets; package require csv; package require queue", 500)
	for range 100 {
		var l []string
		for range 1 + r.Intn(4) {
			l = append(l, []string{"a", "b c", "", "x,y", "q\"r", "n\nm", "{"}[r.Intn(7)])
		}
		s, _ := list.Join(l)
		x.Set("s", s)
		x.Set("u", "a {b c} z")
		if o := x.Eval("csv::fields [csv::line $s]", 5000); o.Text != s {
			t.Fatalf("csv of %q: %v", s, o)
		}
		if o := x.Eval("sets::same [sets::union [sets::meet $s $u] [sets::less $s $u]] $s", 5000); o.Text != "1" {
			t.Fatalf("sets of %q: %v", s, o)
		}
		if o := x.Eval("set q [queue::new]; queue::put $q {*}$s; set out {}; while {[queue::size $q] > 0} {lappend out [queue::get $q]}; set out", 5000); o.Text != s {
			t.Fatalf("a queue of %q: %v", s, o)
		}
	}
	if o := x.Eval("llength [sets::subsets {a b c d e}]", 500); o.Text != "32" {
		t.Errorf("subsets: %v", o)
	}
}
