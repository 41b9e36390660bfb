package machine

import (
	"fmt"
	"slices"
	"strings"
	"testing"

	"threadbare/api"
	"threadbare/list"
)

// told evaluates scripts one after the other and tells their outcomes.
func told(x *Machine, scripts ...string) string {
	var out []string
	for _, s := range scripts {
		o := x.Eval(s, 10000)
		out = append(out, fmt.Sprintf("%d %s", o.Code, o.Text))
	}
	return strings.Join(out, "|")
}

func TestScripts(t *testing.T) {
	long := strings.Repeat("x", 65537)
	half := "set h " + strings.Repeat("x", 40000)
	for i, c := range []struct{ scripts, want string }{
		{"set a [list x {y z}]\nset a", "0 x {y z}"}, {"catch {error no} m; set m", "0 no"}, {"rename set s; s x 5", "0 5"}, {"rename set s; set x", "1 command: set"}, {"", "0 "}, {"# no", "0 "}, {"set x 1; set y 2", "0 2"}, {"set x", "1 variable: x"}, {"set a(1) 5; set a", "1 array: a"}, {"set a 1; set a(2)", "1 array: a(2)"}, {"set a 1; set a(2) 3", "1 array: a(2)"}, {"set i k; set a(k) 7; set a($i)", "0 7"}, {"set a(k) 7; set i k; list $a($i) ${a(k)}", "0 7 7"},
		{"set q::x 1", "1 namespace: ::q"}, {"set ::x 1; set x", "0 1"}, {"set ::q::r::x", "1 namespace: ::q::r"}, {"set a(::x) 3; set a(::x)", "0 3"}, {"set", "1 words: set"}, {"set a b c", "1 words: set"}, {"[list set]", "1 words: set"}, {"nope a", "1 command: nope"}, {"set a {", "1 script: set a {"}, {"set a 1; set b {", "1 script: set a 1; set b {"}, {"unset", "0 "}, {"set a 1; unset a a", "1 variable: a"}, {"set a 1; unset a(1)", "1 array: a(1)"},
		{"eval set a 5; set a", "0 5"}, {"eval {set a 6}", "0 6"}, {"eval", "1 words: eval"}, {"eval {error x}", "1 x"}, {"expr 1 + 2", "0 3"}, {"expr {1 + }", "1 expr: 1 + "}, {"expr {1 / 0}", "1 zero"}, {"set x 4; expr {$x * [set x]}", "0 16"}, {"expr {$q}", "1 variable: q"}, {"expr {0 && [error x]}", "0 0"}, {"expr {1 && [error x]}", "1 x"}, {"expr {{x} ? 1 : 2}", "1 truth: x"}, {"expr {f(1)}", "1 function: f"}, {"expr {no (1)}", "1 function: no"}, {"expr {no (}", "1 expr: no ("}, {"expr {no ? (1) : (2)}", "0 2"}, {"expr {\"a\" + 1}", "1 number: a"},
		{"catch {set x 5} v; set v", "0 5"}, {"catch {return -code break y} v", "0 2"}, {"catch {nope}", "0 1"}, {"catch {} a(1); set a(1)", "0 "}, {"set a 1; catch {} a(1)", "1 array: a(1)"}, {"catch", "1 words: catch"}, {"error a b", "1 words: error"}, {"return", "2 "}, {"return x", "2 x"}, {"return -code", "2 -code"}, {"return -code 3 x", "2 x"}, {"return -code ok", "2 "}, {"return -code 5", "1 option: 5"}, {"return a b", "1 words: return"}, {"return a b c", "1 words: return"}, {"return a b c d", "1 words: return"}, {"set a [return 5]; set b 6", "2 5"},
		{"rename nope x", "1 command: nope"}, {"rename set q::x", "1 namespace: ::q"}, {"rename set list", "1 exists: list"}, {"rename set set", "1 exists: set"}, {"rename set {}; set x 1", "1 command: set"}, {"rename set ::s; ::s x 1", "0 1"}, {"rename rename r; r r rename; rename set z; z k 2", "0 2"}, {"{*}{}", "0 "}, {"{*}{set x} 7", "0 7"}, {"{*}\\{", "1 list: {"}, {"list {*}{a b} {*}{} c", "0 a b c"}, {"set x $q [error no]", "1 variable: q"}, {"list a $b(", "1 script: list a $b("}, {"steps x", "1 words: steps"},
		{half + "; list $h$h", "1 long"}, {half + "; list $h $h", "1 long"}, {half + "; expr {\"$h$h\" eq 1}", "1 long"}, {half + "; eval $h $h", "1 long"}, {"set x " + long, "1 long"}, {"list {*}[list {*}{}]", "0 "}, {"set s {set s 5; set t $s}; eval $s; set t", "0 5"}, {"rename list {}; catch {list} m; set m", "0 command: list"}, {"set x {a b}; list {*}$x$x", "0 a ba b"},
	} {
		if got := told(New(), c.scripts); got != c.want {
			t.Errorf("case %d, %.60q: %.80q, not %q", i, c.scripts, got, c.want)
		}
	}
	x := New()
	if o := x.Eval("return -code error x", 100); o != (api.Outcome{Code: 2, Then: 1, Text: "x"}) {
		t.Errorf("return: %v", o)
	}
	if got := told(x, "set s {eval $s}; eval $s"); got != "1 deep" {
		t.Errorf("deep: %s", got)
	}
	if got := told(x, "set n 0; set s {set n [expr {$n + 1}]; eval $s}; catch {eval $s}; set n"); got != "0 98" {
		t.Errorf("how deep: %s", got)
	}
	if got := told(x, "set e {[expr $e]}; expr $e"); got != "5 steps" {
		t.Errorf("expressions within each other: %s", got)
	}
}

func TestSteps(t *testing.T) {
	x := New()
	if o := x.Eval("set a 1; set b 2; set c 3", 2); o.Code != api.CStop || o.Text != "steps" || x.Left() != 0 {
		t.Errorf("too few steps: %v", o)
	}
	if _, e := x.Get("c"); e != api.ErrNone {
		t.Error("a step too much")
	}
	if o := x.Eval("catch {set a 1; set b 2} m", 2); o.Code != api.CStop {
		t.Errorf("CStop is caught: %v", o)
	}
	if o := x.Eval("set a [list 1]", 50); o.Text != "1" || x.Left() != 48 {
		t.Errorf("%d steps are left", x.Left())
	}
	if o := x.Eval("steps", 1<<40); o.Text != "99999" {
		t.Errorf("steps: %v", o)
	}
	if o := x.Eval("set a", -5); o.Code != api.CStop || x.Left() != 0 {
		t.Errorf("no steps: %v", o)
	}
	if o := x.Eval("{*}{}", 0); o.Code != api.COk {
		t.Errorf("no words: %v", o)
	}
	if o := x.Expr("1 + [set a]", 5); o.Text != "2" || x.Left() != 4 {
		t.Errorf("Expr: %v", o)
	}
	if New().Left() != 0 {
		t.Error("Left at first")
	}
}

func TestTold(t *testing.T) {
	x := New()
	told(x, "set a(1) {x y}; set b 5; set {} 1")
	if s := x.Dump(); s != ":: {{} {s 1} a {a {1 {x y}}} b {s 5}}" {
		t.Errorf("Dump = %q", s)
	}
	if got := x.Commands("::e*"); !slices.Equal(got, []string{"::error", "::eval", "::expr"}) {
		t.Errorf("Commands = %q", got)
	}
	if got := x.Spaces(); !slices.Equal(got, []string{"::"}) {
		t.Errorf("Spaces = %q", got)
	}
	if v, e := x.Get("a(1)"); v != "x y" || e != 0 {
		t.Errorf("Get = %q", v)
	}
	if x.Set("n", "1") != 0 || x.Set("a", "1") != api.ErrKind || x.Set("::n", "1") != api.ErrName || x.Set("q(::)", "") != 0 {
		t.Error("Set")
	}
	if _, e := x.Get("a::b"); e != api.ErrName {
		t.Error("Get of a path")
	}
	if got := told(x, "rename set s; s b"); got != "0 5" || slices.Contains(x.Commands("*"), "::set") {
		t.Error("Commands behind rename")
	}
	var none *Machine
	if o := none.Eval("", 5); o != (api.Outcome{Code: api.CError, Text: "machine"}) || none.Expr("1", 1).Text != "machine" || none.Left() != 0 || none.Dump() != "" || none.Set("a", "") != api.ErrState || none.Commands("*") != nil || none.Spaces() != nil {
		t.Error("a nil machine")
	}
	if s, e := none.Get("a"); s != "" || e != 0 {
		t.Error("Get of a nil machine")
	}
	none.Forget()
	none.Faces(true)
}

func TestTextsAlone(t *testing.T) {
	scripts := []string{"set l [list a {b c} 5]", "set s {list [expr {$n + 1}] {*}$l}", "set n 0x10", "eval $s", "catch {eval $s {} \\{} m", "set n", "expr {$n + 0}", "set n", "rename list ls", "eval $s", "rename ls list; eval $s"}
	want, off := New(), New()
	off.Faces(false)
	for i, s := range scripts {
		x := New()
		for k, s := range scripts[:i] {
			x.Eval(s, 100)
			if k%2 == 0 {
				x.Forget()
			}
			x.Faces(k%3 > 0)
		}
		a, b, c := want.Eval(s, 100), off.Eval(s, 100), x.Eval(s, 100)
		if a != b || a != c || want.Dump() != off.Dump() || want.Dump() != x.Dump() || want.Left() != off.Left() {
			t.Errorf("%q: %v, %v, %v", s, a, b, c)
		}
	}
}

func TestListsAreCommands(t *testing.T) {
	for _, words := range [][]string{{"set", "a b", "{"}, {"list", "#", "$x", "[f]", "a\\\nb", ""}, {"#x", "y"}, {"set", "\\"}} {
		s, _ := list.Join(words)
		x := New()
		x.Eval("rename list l", 5)
		x.Eval("rename l list", 5)
		a := x.Eval(s, 5)
		b := New().Eval("eval [list {*}["+"list "+s+"]]", 20)
		if a != b {
			t.Errorf("%q: %v, %v", words, a, b)
		}
	}
	for _, pair := range [][2]string{{"set a 1", "set b $a"}, {"set a {x\n}", "error $a"}} {
		x, y := New(), New()
		x.Eval(pair[0], 50)
		a, b := x.Eval(pair[1], 50), y.Eval(pair[0]+"\n"+pair[1], 50)
		if a != b || x.Dump() != y.Dump() {
			t.Errorf("%q: %v, %v", pair, a, b)
		}
	}
}
