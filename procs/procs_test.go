package procs

import (
	"fmt"
	"slices"
	"strings"
	"testing"

	"threadbare/api"
	"threadbare/core"
)

func told(x *core.Machine, script string) string {
	o := x.Eval(script, 20000)
	return fmt.Sprintf("%d %s", o.Code, o.Text)
}

func TestScripts(t *testing.T) {
	for i, c := range []struct{ script, want string }{
		{"proc f {a {b 2} args} {list $a $b $args}; f 1", "0 1 2 {}"}, {"proc f {a {b 2} args} {list $a $b $args}; f 1 3 {x y} z", "0 1 3 {{x y} z}"}, {"proc f a {}; f", "1 words: f"}, {"proc f a {}; f 1 2", "1 words: f"}, {"proc f {{a 1} b} {list $a $b}; f 2", "1 words: f"}, {"proc f {{args 5}} {set args}; f", "0 5"}, {"proc f {args b} {list $args $b}; f 1 2", "0 1 2"}, {"proc f {args {b 1}} {list $args $b}; f 1", "0 1 1"},
		{"proc f \\{ {}", "1 list: {"}, {"proc f {{a b c}} {}", "1 param: a b c"}, {"proc f {{}} {}", "1 param: "}, {"proc f {a a} {}", "1 param: a"}, {"proc f {a(1)} {}", "1 param: a(1)"}, {"proc f {a::b} {}", "1 param: a::b"}, {"proc f {{{} 1}} {}", "1 param: {} 1"}, {"proc f {a\\{} {}; f 1", "0 "}, {"proc q::f {} {}", "1 namespace: ::q"}, {"proc f a", "1 words: proc"}, {"proc f {\"a\"b} {}", "1 list: \"a\"b"},
		{"proc set {args} {return x}; set a b", "0 x"}, {"set v 1; proc f {} {set v 2}; f; set v", "0 1"}, {"proc f {} {set v}; set v 1; f", "1 variable: v"}, {"proc f {} {return a; error b}; f", "0 a"}, {"proc f {} {return -code error a}; f", "1 a"}, {"proc f {} {return -code return a}; f", "2 a"}, {"proc f {} {return -code break}; while 1 {f}; list ok", "0 ok"}, {"proc f {} {break}; f", "1 code: break"}, {"proc f {} {continue}; f", "1 code: continue"}, {"proc f {} {return -code return 5}; proc g {} {f; error no}; g", "0 5"}, {"proc f n {if {$n == 0} {return 0}; f [expr {$n - 1}]}; f 40", "0 0"}, {"proc f {} f; f", "1 deep"},
		{"apply {{a b} {expr {$a * $b}}} 3 4", "0 12"}, {"apply {a}", "1 lambda: a"}, {"apply \\{", "1 list: {"}, {"apply {{a a} {}}", "1 param: a"}, {"apply {a {}}", "1 words: apply"}, {"apply {{} {info level 0}}", "0 apply"}, {"apply", "1 words: apply"}, {"apply {{} break}", "1 code: break"},
		{"proc g x {upvar 1 $x y; incr y}; set v 5; g v; set v", "0 6"}, {"proc f {} {uplevel {set a 1}}; f; set a", "0 1"}, {"proc f {} {uplevel 1 set a 2}; f; set a", "0 2"}, {"proc f {} {set a 1; uplevel 0 {set a}}; f", "0 1"}, {"proc f {} {set a 1; g}; proc g {} {uplevel #1 set a}; f", "0 1"}, {"proc f {} {uplevel 2 x}; f", "1 level: 2"}, {"uplevel x", "1 level: 1"}, {"uplevel #0 set a 5; set a", "0 5"}, {"uplevel", "1 words: uplevel"}, {"uplevel #0", "1 level: 1"}, {"proc f {} {uplevel 1}; proc 1 {} {return one}; f", "0 one"}, {"proc f {} {uplevel {info level}}; f", "0 0"}, {"proc f {} {g}; proc g {} {uplevel {h}}; proc h {} {list [info level] [info level -1]}; f", "0 2 f"}, {"proc f {} {uplevel return x; error no}; f", "0 x"},
		{"upvar a b", "1 level: 1"}, {"upvar #0 a b; set a 1; set b", "0 1"}, {"upvar a", "1 words: upvar"}, {"upvar", "1 words: upvar"}, {"upvar x a b", "1 level: x"}, {"upvar 0 a b(1)", "1 name: b(1)"}, {"upvar 0 a b::c", "1 name: b::c"}, {"set b 1; upvar 0 a b", "1 exists: b"}, {"upvar 0 a a", "1 circle: a"}, {"upvar 0 b() a; upvar 0 a() b", "1 circle: b"}, {"upvar 0 x a b x; upvar 0 a x", "1 circle: x"}, {"upvar 0 x a b x; catch {upvar 0 a(1) x}; set x 5; list $b [info exists a]", "0 5 0"}, {"proc f {} {upvar 0 y z; global y; upvar 0 z y}; f", "1 circle: y"}, {"proc f {} {upvar 0 y z; global y; upvar 0 z w; set w 1; set y 2; list $y $z}; f", "0 2 1"}, {"upvar 0 c() a; upvar 0 a() b", "1 array: a()"}, {"set a 1; upvar 0 a(1) b", "1 array: a(1)"}, {"upvar 0 q::a b", "1 namespace: ::q"}, {"upvar 0 a b c d; set a 1; set c 2; list $b $d", "0 1 2"},
		{"set g 1; proc f {} {global g; incr g}; f; set g", "0 2"}, {"proc f {} {set g 1; global g}; f", "1 exists: g"}, {"proc f {} {global g(1)}; f", "1 name: g(1)"}, {"global a(1)", "0 "}, {"set g 1; proc f {} {global ::x::g; set g}; f", "0 1"}, {"global", "1 words: global"},
		{"tailcall f", "1 level: tailcall"}, {"proc f {} {tailcall set a 5; error no}; f; set a", "0 5"}, {"proc f {} {catch {tailcall error x} m; list [catch {tailcall error x}] $m}; f", "0 2 {}"}, {"proc f n {if {$n == 0} {return done}; tailcall f [expr {$n - 1}]}; f 500", "0 done"}, {"proc f {} {try {tailcall error x} finally {}}; f", "0 "}, {"proc f {} {uplevel tailcall error x}; f", "1 level: tailcall"}, {"proc g {} {uplevel {tailcall list y}; error no}; proc f {} {g; error no2}; f", "1 no2"}, {"proc f {} {tailcall nope}; f", "1 command: nope"}, {"proc f {} {while 1 {tailcall list 1}}; f", "0 1"},
	} {
		if got := told(New(), c.script); got != c.want {
			t.Errorf("case %d, %q: %q, not %q", i, c.script, got, c.want)
		}
	}
}

func TestInfo(t *testing.T) {
	for i, c := range []struct{ script, want string }{
		{"set a(1) 2; list [info exists a] [info exists a(1)] [info exists a(2)] [info exists b]", "0 1 1 0 0"}, {"info level", "0 0"}, {"info level 0", "1 level: 0"}, {"info level 1", "1 level: 1"}, {"info level x", "1 number: x"}, {"info level 99999999999999999999", "1 level: 99999999999999999999"}, {"proc f args {list [info level] [info level 1] [info level 0]}; f {a b}", "0 1 {f {a b}} {f {a b}}"}, {"proc f {} {info level -1}; f", "1 level: -1"}, {"proc f {} {g x}; proc g y {info level -1}; f", "0 f"},
		{"proc f {a {b 2}} {body}; list [info body f] [info args f] [info default f b v] $v [info default f a w] $w", "0 body {a b} 1 2 0 {}"}, {"info body q", "1 command: q"}, {"info args set", "1 proc: set"}, {"proc f a {}; info default f q v", "1 param: q"}, {"proc fa {} {}; proc fb {} {}; list [info procs f*] [info commands {[fs]e*}]", "0 {fa fb} set"}, {"proc f {x} {set y 1; global z; set z 3; list [info vars] [info locals] [info locals x*] [info globals z]}; f 1", "0 {x y z} {x y} x z"}, {"info locals", "0 "}, {"set a 1; info vars a*", "0 a"}, {"list [info complete {a b}] [info complete \\{]", "0 1 0"}, {"info", "1 words: info"}, {"info x", "1 option: x"}, {"info body", "1 words: info"},
		{"list [info exists q::x] [info exists ::q::r] [info exists q::] [info exists ::q::a(1)] [info exists q::x(::)]", "0 0 0 0 0 0"}, {"set x 1; set a(1) 1; list [info exists ::x] [info exists ::a(1)] [info exists ::a(2)] [info exists {}]", "0 1 1 0 0"}, {"proc f {} {info exists q::x}; f", "0 0"}, {"info exists q::x y", "1 words: info"}, {"info exists", "1 words: info"},
		{"array set a {x 1 y {2 3}}; list [array exists a] [array size a] [array names a] [array get a] [array names a x*] [array get a y]", "0 1 2 {x y} {x 1 y {2 3}} x {y {2 3}}"}, {"list [array exists a] [array size a] [array names a] [array get a]", "0 0 0 {} {}"}, {"array set a {}; array exists a", "0 1"}, {"set a 1; array set a {}", "1 array: a"}, {"array set a(1) {}", "1 array: a(1)"}, {"array set a {x}", "1 dict: x"}, {"array set q::a {x}", "1 namespace: ::q"}, {"array exists q::a", "1 namespace: ::q"}, {"array set a {x1 1 x2 2 y 3}; array unset a x*; array get a", "0 y 3"}, {"array set a {x 1}; array unset a; array exists a", "0 0"}, {"set a 1; array unset a; set a", "0 1"}, {"array set a {x 1 x 2}; array get a", "0 x 2"}, {"array", "1 words: array"}, {"array q a", "1 option: q"}, {"array get", "1 words: array"}, {"array set a {x 1}; list [array exists a(x)] [array size a(x)] [array names a(x)] [array get a(x)]", "0 0 0 {} {}"}, {"array set a {x 1}; upvar 0 a b(c; array set b(c {y 2}; list [array get b(c] [array get a]", "0 {x 1 y 2} {x 1 y 2}"},
	} {
		if got := told(New(), c.script); got != c.want {
			t.Errorf("case %d, %q: %q, not %q", i, c.script, got, c.want)
		}
	}
}

func TestFunctions(t *testing.T) {
	if got := strings.Join(Commands(), " "); got != "apply array global info proc tailcall uplevel upvar" {
		t.Errorf("Commands = %s", got)
	}
	n, d, h, rest, e := Params("a {b {x y}} args")
	if !slices.Equal(n, []string{"a", "b", "args"}) || !slices.Equal(d, []string{"", "x y", ""}) || !slices.Equal(h, []bool{false, true, false}) || !rest || e != 0 {
		t.Errorf("Params = %q, %q, %v, %t, %d", n, d, h, rest, e)
	}
	for s, want := range map[string]api.Errno{"{": 2, "\\{ a": 2, "a a": 5, "{a b c}": 5, "{}": 5, "{a b c} \\{": 5, "a(": 5, "": 0} {
		if _, _, _, _, e := Params(s); e != want {
			t.Errorf("Params(%q): %d", s, e)
		}
	}
	for _, c := range []struct {
		params string
		words  []string
		want   []string
		e      api.Errno
	}{{"a {b 2} args", []string{"1"}, []string{"1", "2", ""}, 0}, {"a b", []string{"1"}, nil, 8}, {"a", []string{"1", "2"}, nil, 4}, {"args", []string{"x y", "z"}, []string{"{x y} z"}, 0}, {"a a", nil, nil, 5}, {"args", make([]string, 10001), nil, 3}, {"", nil, nil, 0}} {
		got, e := Bind(c.params, c.words)
		if !slices.Equal(got, c.want) || e != c.e {
			t.Errorf("Bind(%q) = %.20q, %d", c.params, got, e)
		}
	}
	for _, c := range []struct {
		word string
		now  int
		want int
		e    api.Errno
	}{{"1", 3, 2, 0}, {"#1", 3, 1, 0}, {"0", 3, 3, 0}, {"3", 3, 0, 0}, {"4", 3, 0, 7}, {"#4", 3, 0, 7}, {"x", 3, 0, 2}, {"#", 3, 0, 2}, {"-1", 3, 0, 2}, {"1234567890", 3, 0, 2}, {"0", -1, 0, 7}, {"#0", -1, 0, 7}, {"", 0, 0, 2}} {
		if n, e := Level(c.word, c.now); n != c.want || e != c.e {
			t.Errorf("Level(%q, %d) = %d, %d", c.word, c.now, n, e)
		}
	}
}
