package nest

import "testing"

func TestLaws(t *testing.T) {
	for _, s := range []string{"set x 1; incr x", "proc f {} {error q}; f", "list [info level] [info commands set] [namespace current]", "interp create d; interp eval d {set y 2}", "catch {nope} m; set m", "return -code 3 x", "trace add variable v write {lappend log}; set v 1; set log", "foreach a {1 2} {lappend l $a}; set l", "interp children {}", "proc f n {if {$n == 0} {return 0}; f [expr {$n - 1}]}; f 40"} {
		x, y := New(), New()
		x.Eval("set x outer; proc f {} {}; interp create c", 100)
		before := x.Dump()
		a := x.Eval("interp eval c {"+s+"}", 1000)
		if b := y.Eval(s, 1000); a != b {
			t.Errorf("%q in a child: %v, not %v", s, a, b)
		}
		if x.Dump() != before {
			t.Errorf("%q changes the maker: %s", s, x.Dump())
		}
	}
	for _, pair := range [][2]string{
		{"interp alias {} a {} list x y; a z", "list x y z"},
		{"interp create c; interp eval c {proc f args {list got $args}}; interp alias {} a c f 1; a 2", "interp create c; interp eval c {proc f args {list got $args}}; interp eval c {f 1 2}"},
		{"interp alias {} a {} error; a q", "error q"},
		{"interp create c; interp alias c a {} list; interp eval c {rename a b; b 1}", "list 1"},
	} {
		if a, b := New().Eval(pair[0], 500), New().Eval(pair[1], 500); a != b {
			t.Errorf("%q: %v, not %v", pair[0], a, b)
		}
	}
	for n := range 12 {
		x := New()
		x.Eval("interp create c; interp limit c "+string(rune('0'+n%10)), 100)
		x.Eval("set before [steps]; catch {interp eval c {while 1 {catch {incr i}}}} m", 1000)
		if o := x.Eval("set m", 10); o.Text != "limit" {
			t.Errorf("a limit of %d: %v", n, o)
		}
	}
	// a safe child never comes to what is hidden in it
	for _, s := range []string{"set x 1", "eval set x 1", "::set x 1", "rename set s", "interp invokehidden {} set x 1", "interp expose {} set", "namespace eval q {set x 1}", "interp alias {} t {} set; t x 1", "apply {{} {set x 1}}", "interp create d; interp transfer d set {}", "namespace unknown set; q x"} {
		x := New()
		x.Eval("interp create -safe c; interp hide c set", 100)
		if o := x.Eval("interp eval c {"+s+"}", 500); o.Code != 1 {
			t.Errorf("%q in a safe child: %v", s, o)
		}
	}
}
