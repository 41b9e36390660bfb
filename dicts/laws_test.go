package dicts

import "testing"

func TestLaws(t *testing.T) {
	for _, d := range []string{"", "a 1", "a 1 b {2 3} c {}", " b  {x y} a 2 b 3", "{k 1} {v \\{} z \\}"} {
		for _, pair := range [][2]string{
			{"dict get [dict set d new key 5] new key", "list 5"},
			{"set k {}; dict for {a b} $d {lappend k $a $b}; set k", "dict get $d"},
			{"set u $d; dict update u p px q qx {}; set u", "dict get $d"},
			{"set u $d; dict with u {}; set u", "dict get $d"},
			{"dict map {a b} $d {set b}", "dict get $d"},
			{"dict filter $d key *", "dict get $d"},
			{"dict filter $d value *", "dict get $d"},
			{"dict alike $d [dict get $d]", "list 1"},
			{"llength [dict keys $d]", "dict size $d"},
			{"dict merge $d $d", "dict get $d"},
			{"dict unset d [dict get [dict create k nope] k]", "dict get $d"},
		} {
			x, y := New(), New()
			x.Set("d", d)
			y.Set("d", d)
			if a, b := x.Eval(pair[0], 500), y.Eval(pair[1], 500); a != b {
				t.Errorf("%q with %q: %v, not %v", pair[0], d, a, b)
			}
		}
	}
}
