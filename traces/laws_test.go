package traces

import (
	"strings"
	"testing"
)

func TestLaws(t *testing.T) {
	for _, s := range []string{"set x 1; incr x 4; append x 7; set x", "proc f a {incr a}; f 5", "foreach x {1 2 3} {lappend l $x}; set l", "array set a {k 1 m 2}; unset a(k); array get a", "catch {set nope} m; set m", "catch {f} m; set m", "proc f {} {return -code break}; while 1 {f}; list ok", "dict set d a 1; dict incr d a; set d", "lassign {1 2} x y; list $y $x", "proc f a {error $a}; catch {f q} m; set m", "rename list l; l a b"} {
		traced := "proc f args {}; rename f {}; foreach v {x l a d m y a(k)} {catch {trace add variable $v {read write unset} nop}}; foreach c {set incr lappend foreach dict} {trace add execution $c {enter leave} nop; trace add command $c {rename delete} nop}; "
		a, b := New().Eval(s, 500), New().Eval(traced+s, 5000)
		if a != b {
			t.Errorf("%q traced by nop: %v, not %v", s, b, a)
		}
	}
	x := New()
	x.Eval("proc note {name args} {lappend ::log [set ::$name]}; trace add variable x write note", 100)
	for _, v := range []string{"1", "a b", "", "2"} {
		x.Eval("set x "+"[list "+map[bool]string{true: "{" + v + "}", false: v}[strings.Contains(v, " ") || v == ""]+"]", 100)
	}
	if o := x.Eval("set log", 100); o.Text != "1 {{a b}} {{}} 2" {
		t.Errorf("what a write trace notes down: %q", o.Text)
	}
	y := New()
	y.Eval("proc f n {if {$n > 0} {f [expr {$n - 1}]}; list}; proc e args {append ::s (}; proc l args {append ::s )}; trace add execution f enter e; trace add execution f leave l; f 3; catch {f 1 2}; f 0", 1000)
	if o := y.Eval("set s", 100); o.Text != "(((())))()()" {
		t.Errorf("pairs: %q", o.Text)
	}
}
