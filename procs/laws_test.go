package procs

import "testing"

func TestLaws(t *testing.T) {
	for _, pair := range [][2]string{
		{"set x 1; proc f {a} {set x 2; incr a}; f 5; set x", "set x 1"},
		{"proc f {a {b 2} args} {return $a$b$args}; f 1 3 {4 5}", "apply {{a {b 2} args} {return $a$b$args}} 1 3 {4 5}"},
		{"proc f {} {error q}; catch f m; set m", "catch {apply {{} {error q}}} m; set m"},
		{"proc f {} {set a 1; uplevel 0 {incr a}; set a}; f", "list 2"},
		{"proc f {} {set a 1; uplevel #1 {incr a}; set a}; f", "list 2"},
		{"proc f {} {tailcall list a b}; f", "list a b"},
		{"proc f {} {tailcall error q}; f", "error q"},
		{"proc f {} {tailcall set x 5}; f; set x", "set x 5"},
		{"proc f {} {tailcall return -code break z}; while 1 {f}; list k", "while 1 {return -code break z}; list k"},
		{"array set a {x 1 y {2 3}}; array set b [array get a]; array get b", "array set a {x 1 y {2 3}}; array get a"},
		{"proc f n {upvar 1 $n v; set v 7; unset v}; set q 1; f q; info exists q", "list 0"},
		{"proc f {} {g}; proc g {} {upvar 2 top t; set t 3}; f; set top", "set top 3"},
	} {
		if a, b := told(New(), pair[0]), told(New(), pair[1]); a != b {
			t.Errorf("%q: %s, not %s", pair[0], a, b)
		}
	}
}
