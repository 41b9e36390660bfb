package spaces

import (
	"fmt"
	"strings"
	"testing"
)

func TestScripts(t *testing.T) {
	for i, c := range []struct{ script, want string }{
		{"namespace eval a {proc f {} {return 1}; namespace export f}; namespace import a::f; rename a::f a::g; f", "0 1"}, {"namespace eval a {namespace current}", "0 ::a"}, {"namespace eval a {namespace eval b {namespace current}}", "0 ::a::b"}, {"namespace eval a {set x 1}; set a::x", "0 1"}, {"namespace eval a {set ::y 2}; set y", "0 2"}, {"set x 5; namespace eval a {info exists x}", "0 0"}, {"namespace eval a {info level}", "0 1"}, {"namespace eval a {info level 0}", "0 namespace eval a {info level 0}"}, {"namespace eval a error q", "1 q"}, {"namespace eval a", "1 words: namespace"}, {"namespace", "1 words: namespace"}, {"namespace q", "1 option: q"}, {"namespace eval a {uplevel 1 {set z 3}}; set z", "0 3"}, {"namespace eval a {return 5}", "2 5"}, {"namespace eval :: {set v 1}; set v", "0 1"}, {"namespace eval :: {info level}", "0 1"},
		{"namespace exists a", "0 0"}, {"namespace eval a::b {}; list [namespace exists a] [namespace parent a::b] [namespace parent ::] [namespace children] [namespace children a] [namespace children a c*]", "0 1 ::a {} ::a ::a::b {}"}, {"namespace parent q", "1 namespace: q"}, {"namespace children q", "1 namespace: q"}, {"namespace eval a {namespace parent}", "0 ::"}, {"list [namespace qualifiers a::b:::c] [namespace tail a::b] [namespace qualifiers a] [namespace qualifiers ::a]", "0 a::b b {} {}"}, {"namespace delete q", "1 namespace: q"}, {"namespace eval a {set x 1; proc f {} {}}; namespace delete a; list [namespace exists a] [info commands a::*]", "0 0 {}"}, {"namespace eval a {set x 1}; namespace delete a; namespace eval a {info exists x}", "0 0"}, {"namespace eval a {proc f {} {}; namespace export f}; namespace import a::f; namespace delete a; f", "1 command: f"}, {"namespace eval a {}; namespace delete a a; list", "0 "}, {"namespace eval a {}; namespace delete a q", "1 namespace: q"}, {"namespace eval a {set x 1}; upvar 0 a::x y; namespace delete a; info exists y", "0 0"}, {"namespace eval a {namespace delete ::a; namespace current}", "0 ::a"}, {"namespace eval a {proc f {} {namespace delete ::a; set x 1; set x}}; a::f", "0 1"}, {"namespace eval a {namespace delete ::a; namespace path}", "1 namespace: ::a"}, {"namespace eval a {namespace delete ::a; set ::a::x 1}", "1 namespace: ::a"}, {"set x 1; namespace delete ::; set x", "1 command: set"},
		{"namespace eval b {proc f {} {return b}}; namespace eval a {namespace path ::b; f}", "0 b"}, {"namespace eval b {}; namespace eval a {namespace path b}", "1 namespace: b"}, {"namespace path \\{", "1 list: {"}, {"namespace eval b {}; namespace eval a {namespace path {::b ::}; namespace path}", "0 ::b ::"}, {"namespace eval b {proc set args {return mine}}; namespace eval a {namespace path ::b; set x 1}", "0 mine"}, {"namespace eval a {namespace export f* g; namespace export h; namespace export}", "0 f* g h"}, {"namespace eval a {namespace export f; namespace export -clear g; namespace export}", "0 g"}, {"namespace eval a {namespace export f; namespace export -clear; namespace export}", "0 "},
		{"namespace import q::f", "1 namespace: ::q"}, {"namespace eval a {proc f {} {}}; namespace import a::f; f", "1 command: f"}, {"proc f {} {}; namespace eval a {proc f {} {}; namespace export f}; namespace import a::f", "1 exists: f"}, {"proc f {} {return 0}; namespace eval a {proc f {} {return 1}; namespace export *}; namespace import -force a::f; f", "0 1"}, {"namespace eval a {proc f1 {} {return 1}; proc f2 {} {return 2}; namespace export *}; namespace import a::f*; namespace import a::*; list [f1] [f2]", "0 1 2"}, {"namespace eval a {proc f {} {return 1}; namespace export f}; namespace import a::f; namespace forget a::f; f", "1 command: f"}, {"namespace eval a {proc f {} {namespace current}; namespace export f}; namespace import a::f; f", "0 ::a"}, {"namespace eval a {proc f {} {}; namespace export f}; namespace import a::f; list [namespace origin f] [namespace which f] [namespace which q] [namespace which a::f]", "0 ::a::f ::f {} ::a::f"}, {"namespace origin q", "1 command: q"}, {"namespace eval a {proc f {} {}; namespace export f}; namespace import a::f; proc a::f {} {return 2}; f", "1 command: f"},
		{"namespace unknown {list u}; q 1 2", "0 u q 1 2"}, {"namespace unknown { }; set n [steps]; catch q m; list $m [expr {$n - [steps]}]", "0 {command: q} 6"}, {"namespace unknown {list u}; namespace eval a {namespace unknown {list v}; q}", "0 v q"}, {"namespace unknown {list u}; namespace eval a {q}", "0 u q"}, {"namespace unknown zz; q 1", "1 command: zz"}, {"namespace unknown {list u}; namespace unknown {}; q", "1 command: q"}, {"namespace unknown \\{", "1 list: {"}, {"namespace unknown {a b}; namespace unknown", "0 a b"},
		{"namespace ensemble e {ab {list 1} ac {list 2} b list}; list [e ab x] [e b y] [e ac]", "0 {1 x} y 2"}, {"namespace ensemble e {ab list ac list b list}; e a", "1 option: a"}, {"namespace ensemble e {abc list}; e a x", "0 x"}, {"namespace ensemble e {a list}; e", "1 words: e"}, {"namespace ensemble e a", "1 dict: a"}, {"namespace ensemble e {a \\{}", "1 list: {"}, {"namespace ensemble q::e {}", "1 namespace: ::q"}, {"namespace eval a {proc f args {list f $args [info level 0]}; namespace ensemble e {x {f 1}}}; rename a::e a::g; a::g x 2", "0 f {1 2} {f 1 2}"}, {"namespace ensemble e {a {}}; list [e a list 5] [e a]", "0 5 {}"}, {"namespace ensemble e {a nope}; e a", "1 command: nope"},
		{"namespace eval a {variable x 5; variable y}; list $a::x [info exists a::y]", "0 5 0"}, {"namespace eval a {variable x 5; proc f {} {variable x; incr x}}; a::f; a::f", "0 7"}, {"namespace eval a {}; proc f {} {variable ::a::x 3 y 4; list $x $y}; f", "0 3 4"}, {"variable q::x", "1 namespace: ::q"}, {"variable x(1)", "1 name: x(1)"}, {"proc f {} {set x 1; variable x}; f", "1 exists: x"}, {"variable", "1 words: variable"}, {"variable x 1; set x", "0 1"}, {"namespace eval a {variable x(1) 2}", "1 name: x(1)"}, {"set x(1) 1; variable x 2", "1 array: x"}, {"variable a(::b) 1", "1 namespace: ::a("},
	} {
		o := New().Eval(c.script, 1000)
		if got := fmt.Sprintf("%d %s", o.Code, o.Text); got != c.want {
			t.Errorf("case %d, %.90q: %.60q, not %.60q", i, c.script, got, c.want)
		}
	}
}

func TestFunctions(t *testing.T) {
	if got := strings.Join(Commands(), " "); got != "namespace variable" {
		t.Errorf("Commands = %s", got)
	}
	for path, want := range map[string]string{"a::b:::c": "a::b", "a": "", "::a": "", "a::": "a", "": "", ":a::b": ":a"} {
		if got := Qualifiers(path); got != want {
			t.Errorf("Qualifiers(%q) = %q", path, got)
		}
	}
	for _, c := range []struct {
		word, keys, want string
		e                int
	}{{"a", "ab b", "ab", 0}, {"a", "ab ac", "", 6}, {"ab", "ab abc", "ab", 0}, {"x", "ab", "", 8}, {"a", "ab ab", "", 6}, {"", "ab", "ab", 0}} {
		got, e := Chosen(c.word, strings.Fields(c.keys))
		if got != c.want || int(e) != c.e {
			t.Errorf("Chosen(%q, %q) = %q, %d", c.word, c.keys, got, e)
		}
	}
	x := New()
	before := x.Eval("namespace unknown {list u}; list a", 100)
	left := x.Left()
	x.Eval("namespace unknown {list u}; q a", 100)
	if before.Text != "a" || left-x.Left() != 1 {
		t.Errorf("an unknown command takes %d steps more", left-x.Left())
	}
}

func TestDumpOfAll(t *testing.T) {
	x := New()
	x.Eval("set a 1; namespace eval z {variable b 2}; namespace eval m::n {variable c; set d(x) {3 4}}; namespace eval empty {variable e}", 100)
	if got := x.Dump(); got != ":: {a {s 1}} ::m::n {d {a {x {3 4}}}} ::z {b {s 2}}" {
		t.Errorf("Dump = %s", got)
	}
	if got := strings.Join(x.Spaces(), " "); got != ":: ::empty ::m ::m::n ::z" {
		t.Errorf("Spaces = %s", got)
	}
	x.Eval("namespace delete m; namespace eval m::n {variable f 5}", 100)
	if got := x.Dump(); got != ":: {a {s 1}} ::m::n {f {s 5}} ::z {b {s 2}}" {
		t.Errorf("Dump behind a deletion = %s", got)
	}
}
