package basic

import (
	"fmt"
	"slices"
	"strings"
	"testing"

	"threadbare/api"
	"threadbare/core"
)

func told(x *core.Machine, script string) string {
	o := x.Eval(script, 10000)
	return fmt.Sprintf("%d %s", o.Code, o.Text)
}

func TestScripts(t *testing.T) {
	long := strings.Repeat("x", 40000)
	nines := strings.Repeat("9", 600)
	for i, c := range []struct{ script, want string }{
		{"if 0 {set a 1} elseif 1 then {set a 2}", "0 2"}, {"if 1 {set a 1}", "0 1"}, {"if 0 {error x}", "0 "}, {"if 0 {error x} {set b 3}", "0 3"}, {"if 0 then {error x} else {set b 4}", "0 4"}, {"if 1 then then", "1 command: then"}, {"if 1", "1 words: if"}, {"if", "1 words: if"}, {"if 0 a else", "1 words: if"}, {"if 0 a b c", "1 words: if"}, {"if 0 a elseif", "1 words: if"}, {"if 1 then", "1 words: if"}, {"if {1 +} a", "1 expr: 1 +"}, {"if {{x}} a", "1 truth: x"}, {"if {[break]} a", "3 "}, {"if 0 a elseif 0 b else else", "1 command: else"},
		{"set i 0; while {$i < 3} {incr i}; set i", "0 3"}, {"while 1 {break}", "0 "}, {"set i 0; while {$i < 5} {incr i; if {$i < 3} continue; set j $i}; set j", "0 5"}, {"while 1 {error x}", "1 x"}, {"while 1 {return x}", "2 x"}, {"while {[break]} {}", "3 "}, {"while 0", "1 words: while"}, {"while {{x}} {}", "1 truth: x"},
		{"set s {}; for {set i 0} {$i < 3} {incr i} {append s $i}; set s", "0 012"}, {"for {error x} 1 {} {}", "1 x"}, {"for {} 1 break {}", "0 "}, {"for {set i 0} {$i < 3} {incr i; continue} {}; set i", "0 3"}, {"for {} 1 {return q} {}", "2 q"}, {"for {set i 0} {$i < 3} {incr i} {continue}; set i", "0 3"}, {"for {break} 1 {} {}", "3 "},
		{"set s 0; foreach {a b} {1 2 3} {incr s $a}; set s", "0 4"}, {"foreach {a b} {1 2 3} {}; list $a $b", "0 3 {}"}, {"set l {}; foreach a {1 2} {b c} {x y z} {append l $a$b$c,}; set l", "0 1xy,2z,"}, {"foreach a {1 2 3} {if {$a == 2} break}; set a", "0 2"}, {"foreach a \\{ {}", "1 list: {"}, {"foreach {} {1} {}", "1 words: foreach"}, {"foreach {} \\{ {}", "1 list: {"}, {"foreach a {1} b {}", "1 words: foreach"}, {"foreach a {}", "1 words: foreach"}, {"set x 1; foreach x(1) {a} {}", "1 array: x(1)"}, {"foreach {a a} {1 2} {set r $a}; set r", "0 2"}, {"foreach q::a {1} {}", "1 namespace: ::q"}, {"foreach a {} {error x}", "0 "},
		{"lmap x {a {b c} d} {set x}", "0 a {b c} d"}, {"lmap x {1 2 3 4} {if {$x == 2} continue; if {$x == 4} break; set x}", "0 1 3"}, {"lmap x {1} {error e}", "1 e"}, {"lmap x {1 2} {list " + long + "}", "1 long"}, {"lmap {} {1} {}", "1 words: lmap"}, {"break", "3 "}, {"continue", "4 "}, {"break x", "1 words: break"},
		{"set x 0x10; incr x", "0 17"}, {"incr x", "0 1"}, {"incr x -5", "0 -5"}, {"set x a; incr x b", "1 number: a"}, {"incr x b", "1 number: b"}, {"set x(1) 1; incr x", "1 array: x"}, {"incr", "1 words: incr"}, {"incr a b c", "1 words: incr"}, {"set x " + nines + "; incr x", "1 long"}, {"incr a(i) 2; incr a(i)", "0 3"}, {"incr q::a", "1 namespace: ::q"},
		{"append x a b; append x; append x c", "0 abc"}, {"append y; set y", "0 "}, {"append", "1 words: append"}, {"append x " + long + " " + long, "1 long"}, {"set a(1) 2; append a x", "1 array: a"}, {"concat { a } {} b", "0 a b"}, {"concat", "0 "}, {"concat " + long + " " + long, "1 long"},
		{"set a 5; subst {x$a[set a]\\t}", "0 x55\t"}, {"set a 5; subst -novars -noslashes {$a[set a]\\t}", "0 $a5\\t"}, {"subst -noscripts {[x]}", "0 [x]"}, {"subst -x y", "1 option: -x"}, {"subst -x", "0 -x"}, {"subst", "1 words: subst"}, {"subst a b", "1 words: subst"}, {"subst \\[", "1 script: ["}, {"subst {[error x]}", "1 x"}, {"subst {[break]}", "3 "}, {"subst {$q}", "1 variable: q"}, {"set h " + long + "; subst {$h$h}", "1 long"}, {"subst {}", "0 "}, {"throw x", "1 x"}, {"nop a b", "0 "},
		{"try {error x} on error m {set m} finally {set f 1}", "0 x"}, {"try {set a 1}", "0 1"}, {"try {error x} finally {set f 1}; set f", "1 x"}, {"catch {try {error x} finally {set f 1}}; set f", "0 1"}, {"try {error x} finally {error y}", "1 y"}, {"try {break} on break - {set q 1}", "0 1"}, {"try {return -code 3 z} on 2 m {set m}", "0 z"}, {"try {set a 1} on ok m {append m 2}", "0 12"}, {"try {error x} on error m {error y} on error n {set n}", "1 y"}, {"set m 1; try {error x} on error m(1) {set q 1}", "1 array: m(1)"}, {"set m 1; catch {try {error x} on error m(1) {} finally {set f 2}}; set f", "0 2"}, {"try {error x} on nope m {}", "1 option: nope"}, {"try {set z 1} on nope m {}; set z", "1 option: nope"}, {"try", "1 words: try"}, {"try a on error m", "1 words: try"}, {"try a finally", "1 words: try"}, {"try a finally b on error m {}", "1 words: try"}, {"try {return -code break x}", "2 x"},
		{"switch b {a {set x 1} b {set x 2}}", "0 2"}, {"switch z {a {} default {set x 3}}", "0 3"}, {"switch default {default {set x 1} z {}}", "0 1"}, {"switch z {default {set x 1} y {}}", "0 "}, {"switch a {a - b - c {set x 4}}", "0 4"}, {"switch a {a -}", "1 option: -"}, {"switch -glob abc {a* {set x 5}}", "0 5"}, {"switch -glob -exact abc {a* {set x 5}}", "0 "}, {"switch -nocase AB {ab {set x 6}}", "0 6"}, {"switch -glob -nocase AB {a* {set x 7}}", "0 7"}, {"switch -- -x {-x {set x 8}}", "0 8"}, {"switch -x {a b}", "1 option: -x"}, {"switch a {}", "1 words: switch"}, {"switch a {b}", "1 words: switch"}, {"switch a \\{", "1 list: {"}, {"switch a", "1 words: switch"}, {"switch a b c", "1 words: switch"}, {"switch a {a {error q}}", "1 q"},
	} {
		if got := told(New(), c.script); got != c.want {
			t.Errorf("case %d, %.60q: %.80q, not %q", i, c.script, got, c.want)
		}
	}
}

func TestSteps(t *testing.T) {
	for script, n := range map[string]int{"while 0 {}": 2, "set i 0; while {$i < 2} {incr i}": 1 + 1 + 3 + 2, "foreach a {1 2} {}": 3, "for {set i 0} {$i < 1} {incr i} {}": 1 + 1 + 2 + 1, "lmap a {} {}": 1, "if 1 {set a 1}": 2} {
		x := New()
		x.Eval(script, 100)
		if 100-x.Left() != n {
			t.Errorf("%q takes %d steps, not %d", script, 100-x.Left(), n)
		}
		if o := New().Eval(script, n-1); o.Code != api.CStop {
			t.Errorf("%q with too few steps: %v", script, o)
		}
	}
	x := New()
	if o := x.Eval("try {while 1 {}} finally {set f 1}", 50); o.Code != api.CStop {
		t.Errorf("%v", o)
	}
	if _, e := x.Get("f"); e != api.ErrNone {
		t.Error("finally is done after CStop")
	}
}

func TestFunctions(t *testing.T) {
	if got := strings.Join(Commands(), " "); got != "append break concat continue for foreach if incr lmap nop subst switch throw try while" {
		t.Errorf("Commands = %s", got)
	}
	c, b, e := Conditions(strings.Fields("a then b elseif c d else f"))
	if strings.Join(c, "") != "ac" || strings.Join(b, "") != "bdf" || e != 0 {
		t.Errorf("Conditions = %q, %q, %d", c, b, e)
	}
	words := []string{"a", "then", "b", "c"}
	c, b, e = Conditions(words)
	if len(c) != 1 || strings.Join(b, "") != "bc" || e != 0 || words[1] != "then" {
		t.Errorf("Conditions = %q, %q, %d", c, b, e)
	}
	for _, s := range []string{"", "a", "a then", "a b else", "a b c d", "a b elseif c", "a b else c d"} {
		if c, b, e := Conditions(strings.Fields(s)); e != api.ErrSyntax || c != nil || b != nil {
			t.Errorf("Conditions(%q): %d", s, e)
		}
	}
	r, e := Rounds([]string{"a b", "c"}, []string{"1 2 3", "x"})
	if e != 0 || len(r) != 2 || !slices.Equal(r[0], []string{"1", "2", "x"}) || !slices.Equal(r[1], []string{"3", "", ""}) {
		t.Errorf("Rounds = %q, %d", r, e)
	}
	for i, c := range []struct {
		names, lists []string
		e            api.Errno
	}{{nil, nil, 1}, {[]string{"a"}, nil, 1}, {[]string{""}, []string{"{"}, 2}, {[]string{"{"}, []string{""}, 2}, {[]string{""}, []string{"a"}, 8}, {[]string{"", "a"}, []string{"", "{"}, 2}, {[]string{"a"}, []string{""}, 0}} {
		if _, e := Rounds(c.names, c.lists); e != c.e {
			t.Errorf("case %d: %d", i, e)
		}
	}
}
