package dicts

import (
	"fmt"
	"strings"
	"testing"
)

func TestScripts(t *testing.T) {
	long := strings.Repeat("x", 40000)
	for i, c := range []struct{ script, want string }{
		{"dict set d a b 1; dict get $d a b", "0 1"}, {"dict for {k v} {x 1 y 2} {append s $k$v}; set s", "0 x1y2"}, {"dict create a 1 b 2 a 3", "0 a 3 b 2"}, {"dict create a", "1 words: dict"}, {"dict create", "0 "}, {"dict", "1 words: dict"}, {"dict q", "1 option: q"}, {"dict get {a 1 a 2}", "0 a 2"}, {"dict get {a 1} b", "1 key: b"}, {"dict get {a x} a b", "1 dict: x"}, {"dict get {a} b", "1 dict: a"}, {"dict get {a {b 1}} a c", "1 key: c"}, {"dict get", "1 words: dict"}, {"dict exists {a {b 1}} a b", "0 1"}, {"dict exists {a 1} a b", "0 0"}, {"dict exists {a 1}", "0 1"}, {"dict exists a b", "1 dict: a"}, {"dict getor {a 1} a 5", "0 1"}, {"dict getor {a 1} b 5", "0 5"}, {"dict getor {a x} a b 5", "0 5"}, {"dict getor a b 5", "1 dict: a"}, {"dict getor {a 1} b", "1 words: dict"},
		{"set d x; dict set d a 1", "1 dict: x"}, {"set d {a x}; dict set d a b 1", "1 dict: x"}, {"set d {a {b x}}; dict set d a b c 1", "1 dict: x"}, {"dict set d a", "1 words: dict"}, {"set d(1) x; dict set d a 1", "1 array: d"}, {"dict set q::d a 1", "1 namespace: ::q"}, {"set d {a 1 b 2}; dict unset d a; set d", "0 b 2"}, {"dict unset d a", "1 variable: d"}, {"set d {a {b 1}}; dict unset d c b", "1 key: c"}, {"set d {a x}; dict unset d a b", "1 dict: x"}, {"set d {a  1}; dict unset d q", "0 a 1"}, {"set d a; dict unset d q", "1 dict: a"}, {"dict size {a 1 a 2}", "0 1"}, {"dict size a", "1 dict: a"}, {"dict keys {ab 1 b 2} a*", "0 ab"}, {"dict values {a 1 b {2 3}}", "0 1 {2 3}"}, {"dict keys a", "1 dict: a"}, {"dict merge {a 1 b 2} {b 3}", "0 a 1 b 3"}, {"dict merge", "0 "}, {"dict merge {} a", "1 dict: a"}, {"dict remove {a 1 b 2} a q", "0 b 2"}, {"dict replace {a 1} a 2 b 3", "0 a 2 b 3"}, {"dict replace {a 1} a", "1 words: dict"}, {"dict replace a b c", "1 dict: a"},
		{"dict append d k a b; dict append d k c", "0 k abc"}, {"dict append d k", "0 k {}"}, {"dict lappend d k a {b c}; dict lappend d k e", "0 k {a {b c} e}"}, {"set d {k \\{}; dict lappend d k x", "1 list: {"}, {"dict incr d k; dict incr d k 5", "0 k 6"}, {"set d {k x}; dict incr d k y", "1 number: x"}, {"dict incr d k y", "1 number: y"}, {"set d {k " + long + "}; dict append d k " + long, "1 long"}, {"dict incr d", "1 words: dict"}, {"dict append d", "1 words: dict"},
		{"dict for {k} {x 1} {}", "1 names: k"}, {"dict for \\{ {x 1} {}", "1 list: {"}, {"dict for {k v} x {}", "1 dict: x"}, {"dict for {k v} {a 1 b 2} {break}; set k", "0 a"}, {"dict for {k v} {a 1} {error q}", "1 q"}, {"dict map {k v} {a 1 b 2} {incr v}", "0 a 2 b 3"}, {"dict map {k v} {a 1 b 2 c 3 d 4} {if {$k eq \"b\"} continue; if {$k eq \"d\"} break; set v}", "0 a 1 c 3"}, {"dict filter {ab 1 b 2} key a*", "0 ab 1"}, {"dict filter {a 1 b 2} value 2", "0 b 2"}, {"dict filter {a 1 b 2} script {k v} {expr {$v > 1}}", "0 b 2"}, {"dict filter {a 1} script {k v} {set k}", "1 truth: a"}, {"dict filter {a 1} q x", "1 option: q"}, {"dict filter a q x", "1 dict: a"}, {"dict filter {a 1} key x y", "1 words: dict"}, {"dict filter {a 1} script {k v}", "1 words: dict"}, {"dict filter {a 1} script k {}", "1 names: k"}, {"dict filter {a 1 b 0 c 1} script {k v} {if {$k eq \"c\"} break; set v}", "0 a 1"},
		{"set d {a 1 b 2}; dict update d a x c y {incr x; set y 5}; set d", "0 a 2 b 2 c 5"}, {"set d {a 1 b 2}; dict update d a x b y {unset y}; set d", "0 a 1"}, {"set d {a 1}; set y 7; dict update d a x c y {list [info exists y] $x}", "0 0 1"}, {"dict update d a x {}", "1 variable: d"}, {"set d a; dict update d a x {}", "1 dict: a"}, {"set d {a 1}; dict update d a x", "1 words: dict"}, {"set d {a 1}; catch {dict update d a x {incr x; error q}} m; list $m $d", "0 q {a 2}"}, {"set d {a 1}; dict update d a x {set d q; list}", "1 dict: q"}, {"set d {a 1}; dict update d a x {unset d}", "1 variable: d"}, {"set d {a 1}; dict update d a x {unset d; error q}", "1 q"}, {"set d {a 1 b 2}; dict with d {incr a; incr b}; set d", "0 a 2 b 3"}, {"set d {a 1}; dict with d {set a(1) 5}", "1 array: a(1)"}, {"dict with d", "1 words: dict"}, {"set d {q::x 1}; dict with d {}", "1 namespace: ::q"}, {"set d {a 1}; dict update d a x {return 7}", "2 7"}, {"dict invert {a 1 b 2 c 1}", "0 1 c 2 b"}, {"dict alike {a 1 b 2} {b 2 a 1}", "0 1"}, {"dict alike a a", "0 0"}, {"dict map {k v} {x 1 y 2} {set v}", "0 x 1 y 2"}, {"dict with d {}", "1 variable: d"},
	} {
		o := New().Eval(c.script, 1000)
		if got := fmt.Sprintf("%d %s", o.Code, o.Text); got != c.want {
			t.Errorf("case %d, %.60q: %.60q, not %.60q", i, c.script, got, c.want)
		}
	}
	if got := strings.Join(Commands(), " "); got != "dict" {
		t.Errorf("Commands = %s", got)
	}
	x := New()
	x.Eval("set d {a 1}; dict update d a v {set v 5; while 1 {}}", 50)
	if d, _ := x.Get("d"); d != "a 1" {
		t.Errorf("update writes back after CStop: %q", d)
	}
}
