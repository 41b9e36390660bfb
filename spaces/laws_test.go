package spaces

import "testing"

func TestLaws(t *testing.T) {
	const pre = "namespace eval a {variable x 1; proc f args {variable x; list f $x $args}; namespace export f; namespace eval b {proc g {} {return g}}}; "
	for _, pair := range [][2]string{
		{"namespace import a::f; f 1", "a::f 1"},
		{"namespace import a::f; rename a::f a::h; f 1", "a::f 1"},
		{"namespace import a::f; rename f k; k 1", "a::f 1"},
		{"namespace import a::f; namespace eval c {namespace export *}; namespace eval c {namespace import ::a::f}; c::f 1", "a::f 1"},
		{"namespace import a::f; rename a::f {}; catch f m; set m", "list command: f"},
		{"namespace eval a {namespace which f}", "list ::a::f"},
		{"namespace eval a {[namespace which f] 1}", "a::f 1"},
		{"namespace eval a {namespace which list}", "list ::list"},
		{"namespace ensemble e {go {::a::f 1}}; e go 2", "a::f 1 2"},
		{"namespace eval a {namespace eval b {namespace current}}", "namespace eval a::b {namespace current}"},
		{"namespace eval a {namespace eval b {g}}", "namespace eval ::a::b {g}"},
		{"namespace delete a; list [namespace exists a] [namespace exists a::b] [catch {set a::x}] [catch {a::f}]", "list 0 0 1 1"},
	} {
		a, b := New().Eval(pre+pair[0], 500), New().Eval(pre+pair[1], 500)
		if a != b {
			t.Errorf("%q: %v, not %v", pair[0], a, b)
		}
	}
}
