package nest

import (
	"fmt"
	"slices"
	"strings"
	"testing"
)

func TestScripts(t *testing.T) {
	for i, c := range []struct{ script, want string }{
		{"interp create c; interp alias c up {} set; interp eval c {up x 5}; set x", "0 5"}, {"interp create c", "0 c"}, {"interp create {c d}", "1 interp: c d"}, {"interp create c; interp create {c d}; list [interp children {}] [interp children c] [interp exists {c d}] [interp exists q]", "0 c d 1 0"}, {"interp create c; interp create c", "1 exists: c"}, {"interp create {}", "1 exists: "}, {"interp create {{}}", "1 interp: {}"}, {"interp create \\{", "1 list: {"}, {"interp create a b", "1 words: interp"}, {"interp create -safe c; interp create {c d}; list [interp issafe c] [interp issafe {c d}] [interp issafe {}]", "0 1 1 0"}, {"interp", "1 words: interp"}, {"interp q", "1 option: q"}, {"interp eval q {}", "1 interp: q"}, {"interp eval c", "1 words: interp"},
		{"interp create c; interp eval c {set x 1}; info exists x", "0 0"}, {"interp create c; interp eval c set y 2; interp eval c {set y}", "0 2"}, {"interp create c; interp eval c {error q}", "1 q"}, {"interp create c; interp eval c {return q}", "2 q"}, {"interp create c; interp eval c break", "3 "}, {"interp create c; interp eval c {proc f {} {tailcall error x}; f}", "1 x"}, {"interp create c; catch {interp eval c {apply {{} {uplevel #1 {tailcall error x}}}}} m; set m", "0 x"}, {"set x 1; proc f {} {set x 2; interp eval {} {set x}}; f", "0 1"}, {"interp create c; interp delete c; interp exists c", "0 0"}, {"interp delete {}", "1 interp: "}, {"interp delete { }", "1 interp: "}, {"interp delete q", "1 interp: q"}, {"interp create c; interp alias {} f c list x; interp delete c; f", "1 command: f"}, {"interp create c; interp alias c die {} interp delete c; interp eval c {catch die; set x 5}", "1 deleted"}, {"interp create c; interp alias c die {} interp delete c; catch {interp eval c {try die finally {up}}} m; list $m [interp exists c]", "0 deleted 0"}, {"interp create c; interp create {c d}; interp alias {c d} die {} interp delete c; interp eval c {catch {interp eval d die}; set x 1}", "1 deleted"},
		{"interp alias {} f {} list a; f b", "0 a b"}, {"interp alias {} f {} list a", "0 ::f"}, {"interp alias {} f {} f; f", "5 steps"}, {"interp alias {} q::f {} list", "1 namespace: ::q"}, {"interp alias {} f q list", "1 interp: q"}, {"interp alias {} f {}", "1 words: interp"}, {"interp alias {} f {} list a; interp alias {} g {} list; list [interp aliases {}] [interp target {} f]", "0 {::f ::g} {list a}"}, {"interp alias {} f {} list; interp unalias {} f; f", "1 command: f"}, {"interp unalias {} set", "1 alias: set"}, {"interp target {} q", "1 alias: q"}, {"set v 1; proc f {} {set v 2; g}; interp alias {} g {} set v; f", "0 1"}, {"interp create c; interp alias c set {} list mine; interp eval c {set a b}", "0 mine a b"}, {"interp alias {} f {} list; rename f g; interp aliases {}", "0 ::g"},
		{"interp create -safe c; interp eval c {interp hide {} set}", "1 safe: hide"}, {"interp create -safe c; interp eval c {interp limit {} 5}", "1 safe: limit"}, {"interp create -safe c; interp eval c {interp create d; interp hide d set; interp invokehidden d set x 3}", "0 3"}, {"interp hide {} list; list", "1 command: list"}, {"interp hide {} list l; list2", "1 command: list2"}, {"interp hide {} list l; interp invokehidden {} l a b", "0 a b"}, {"interp hide {} list l; interp hidden {}", "0 l"}, {"interp hide {} list l; interp hide {} set l", "1 exists: l"}, {"interp hide {} q", "1 command: q"}, {"interp hide {} list; interp expose {} list; list a", "0 a"}, {"interp hide {} list; interp expose {} list lst; lst a", "0 a"}, {"interp hide {} list; interp expose {} list set", "1 exists: set"}, {"interp expose {} q", "1 command: q"}, {"interp hide {} list; interp expose {} list q::l", "1 namespace: ::q"}, {"interp invokehidden {} q", "1 command: q"}, {"interp create c; interp hide c list; interp eval c {proc list args {return no}}; interp invokehidden c list x", "0 x"},
		{"interp create c; interp limit c 3; interp eval c {set i 0; while 1 {incr i}}", "1 limit"}, {"interp create c; interp limit c 3; catch {interp eval c {catch {while 1 {set i 1}} m; set j 2}}; list [interp limit c] [interp eval c {}]", "0 0 {}"}, {"interp create c; interp limit c", "0 "}, {"interp create c; interp limit c 5; interp limit c {}; interp limit c", "0 "}, {"interp limit {} x", "1 number: x"}, {"interp limit {} -1", "1 range: -1"}, {"interp limit {} 99999999999999999999", "1 range: 99999999999999999999"}, {"interp limit {} 2; catch {while 1 {}}; set x 1", "1 limit"}, {"interp create c; interp create {c d}; interp limit c 4; interp eval {c d} {while 1 {}}", "1 limit"}, {"interp create c; interp create {c d}; interp limit {c d} 3; interp eval c {catch {interp eval d {while 1 {}}} m; set m}", "0 limit"}, {"interp create c; interp limit c 2; interp alias c work {} apply {{} {for {set i 0} {$i < 20} {incr i} {}; set i}}; interp eval c work", "0 20"}, {"interp create c; interp limit c 1; interp eval c {try {list; list} finally {nope}}", "1 limit"},
		{"interp create c; interp share {} x c y; set x 5; interp eval c {incr y}; set x", "0 6"}, {"interp create c; interp share {} x c y::z", "1 name: y::z"}, {"interp create c; interp eval c {set y 1}; interp share {} x c y", "1 exists: y"}, {"interp share {} x {} x", "1 circle: x"}, {"interp create c; interp share c y {} x; interp share {} b c y; interp share {} x c y", "1 circle: y"}, {"set x 1; interp share {} x(1) {} y", "1 array: x(1)"}, {"interp share {} q::x {} y", "1 namespace: ::q"}, {"interp create c; interp share {} x c y; trace add variable x write {lappend log}; interp eval c {set y 3; set log}", "0 y {} write"}, {"proc f a {list got $a}; interp create c; interp transfer {} f c; interp eval c {f 1}", "0 got 1"}, {"interp transfer {} q {}", "1 command: q"}, {"interp transfer {} set {}", "1 proc: set"}, {"namespace eval n {proc f {} {}}; interp create c; interp transfer {} n::f c", "1 namespace: ::n"}, {"interp create c; interp eval c {proc f {} f}; interp alias c g {} interp eval c f; interp eval c {proc f {} g; f}", "1 deep"},
		{"for {set i 0} {$i < 20} {incr i} {interp create c$i}; interp create d", "1 long"}, {"interp create a; interp create {a a}; interp create {a a a}; interp create {a a a a}; interp create {a a a a a}; interp create {a a a a a a}", "1 long"},
	} {
		o := New().Eval(c.script, 2000)
		if got := fmt.Sprintf("%d %s", o.Code, o.Text); got != c.want {
			t.Errorf("case %d, %.160q: %.90q, not %.90q", i, c.script, got, c.want)
		}
	}
}

func TestFunctions(t *testing.T) {
	s := Safe()
	if !slices.IsSorted(s) || !slices.Contains(s, "interp") || !slices.Contains(s, "set") || !slices.Contains(s, "trace") || strings.Join(Commands(), "") != "interp" {
		t.Errorf("Safe = %q", s)
	}
	x := New()
	if len(x.Commands("*")) != len(s) {
		t.Error("Safe is not all commands")
	}
	x.Eval("interp create c; interp limit c 1000", 100)
	if o := x.Eval("interp eval c {while 1 {}}", 50); o.Code != 5 || o.Text != "steps" {
		t.Errorf("%v", o)
	}
	if o := x.Eval("interp limit c", 50); o.Text != "951" {
		t.Errorf("a limit behind too few steps: %v", o)
	}
	if o := x.Eval("interp eval c {steps}", 50); o.Text != "48" {
		t.Errorf("steps are shared: %v", o)
	}
	y := New()
	y.Eval("interp limit {} 0", 10)
	if o := y.Eval("set x 1", 10); o.Code != 1 || o.Text != "limit" {
		t.Errorf("%v", o)
	}
}
