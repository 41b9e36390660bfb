package basic

import "testing"

func TestLaws(t *testing.T) {
	for _, pair := range [][2]string{
		{"for {set i 0} {$i < 4} {incr i} {append s $i}; set s", "set i 0; while {$i < 4} {append s $i; incr i}; set s"},
		{"lmap x {a {b c} {} d} {set x}", "list a {b c} {} d"},
		{"foreach {a b} {1 2 3} {append s $a-$b,}; set s", "list 1-2,3-,"},
		{"if 0 {set a 1} elseif 1 {set a 2} elseif 1 {set a 3} else {set a 4}; set a", "list 2"},
		{"try {set a 1} finally {set f 1}; set f", "list 1"},
		{"catch {try {error x} finally {set f 1}}; set f", "list 1"},
		{"catch {try {return x} finally {set f 1}}; set f", "list 1"},
		{"catch {try {break} finally {set f 1}}; set f", "list 1"},
		{"catch {try {continue} finally {set f 1}}; set f", "list 1"},
		{"catch {try {error x} on error m {error y} finally {set f 1}} n; list $f $n", "list 1 y"},
		{"concat {a b} { c } {{d e}}", "list a b c {d e}"},
	} {
		if a, b := told(New(), pair[0]), told(New(), pair[1]); a != b {
			t.Errorf("%q: %s, not %s", pair[0], a, b)
		}
	}
}
