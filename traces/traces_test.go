package traces

import (
	"fmt"
	"slices"
	"strings"
	"testing"

	"threadbare/api"
)

func TestScripts(t *testing.T) {
	const log = "proc log args {global l; lappend l $args; list}; proc bad args {error no}; set l {}; "
	for i, c := range []struct{ script, want string }{
		{"trace add variable x write {lappend log}; set x 5; set log", "0 x {} write"}, {log + "trace add variable x {read write unset} log; set x 1; set x; append x 2; unset x; set l", "0 {x {} write} {x {} read} {x {} read} {x {} write} {x {} unset}"}, {log + "trace add variable a(1) write log; trace add variable a write {log A}; set a(1) 5; set a(2) 6; set l", "0 {A a 1 write} {a 1 write} {A a 2 write}"}, {log + "trace add variable x write {log 1}; trace add variable x write {log 2}; set x 1; set l", "0 {2 x {} write} {1 x {} write}"}, {log + "trace add variable x write bad; set x 1", "1 trace: no"}, {log + "trace add variable x write bad; catch {set x 1}; set x", "0 1"}, {log + "set x 1; trace add variable x read bad; list $x", "1 trace: no"}, {log + "set x 1; trace add variable x unset bad; unset x; info exists x", "0 0"}, {log + "trace add variable x write break; set x 1", "1 trace: words: break"}, {log + "trace add variable x read {set x 7; list}; set x 1; set x", "1 trace: words: set"}, {log + "proc r args {global x; set x 7}; set x 1; trace add variable x read r; list $x", "0 7"}, {log + "proc r args {global x; unset x}; set x 1; trace add variable x read r; list $x", "1 variable: x"}, {log + "proc w args {global x; append x !}; trace add variable x write w; set x 1", "0 1!"}, {log + "proc w args {global x; unset x}; trace add variable x write w; set x 1", "0 "},
		{log + "trace add variable x write log; upvar 0 x y; set y 1; proc f {} {upvar 1 x z; set z 2}; f; set l", "0 {y {} write} {z {} write}"}, {log + "trace add variable x write log; unset -x", "1 variable: -x"}, {log + "set x 1; trace add variable x write log; unset x; set x 2; set l", "0 "}, {log + "array set a {1 x 2 y}; trace add variable a(1) unset {log e}; trace add variable a unset {log A}; unset a(2); unset a; set l", "0 {A a 2 unset} {A a {} unset}"}, {log + "array set a {1 x}; trace add variable a(1) unset {log e}; trace add variable a unset {log A}; unset a(1); set l", "0 {A a 1 unset} {e a 1 unset}"}, {log + "array set a {1 x}; trace add variable a read log; catch {set a}; array get a; array names a; info exists a; set l", "0 {a {} read} {a 1 read}"}, {log + "trace add variable n::x write log", "1 namespace: ::n"}, {log + "namespace eval n {set x 1}; trace add variable n::x unset log; namespace delete n; set l", "0 {::n::x {} unset}"}, {log + "proc f {} {set v 1; trace add variable v unset {log}; list}; f; set l", "0 "}, {log + "trace add variable ::x write log; set ::x 5; set l", "0 {::x {} write}"}, {log + "array set a {1 1}; upvar 0 a b(c; trace add variable a write log; array set b(c {2 2}; set l", "0 {b(c 2 write}"},
		{"trace add variable x {write read write} {a b}; trace add variable x unset c; trace info variable x", "0 {unset c} {{write read} {a b}}"}, {"trace add variable x {write read} c; trace remove variable x {read write} c; trace info variable x", "0 "}, {"trace add variable x write c; trace remove variable x read c; trace remove variable x write d; trace info variable x", "0 {write c}"}, {"trace add variable x write c; trace add variable x write d; trace add variable x write c; trace remove variable x write c; trace info variable x", "0 {write d} {write c}"}, {"trace add variable x {} c", "1 list: "}, {"trace add variable x { } c", "1 list:  "}, {"trace add variable x \\{ c", "1 list: {"}, {"trace add variable x {write q} c", "1 option: q"}, {"trace add variable x write \\{", "1 list: {"}, {"trace remove variable x write \\{", "0 "}, {"trace", "1 words: trace"}, {"trace q", "1 option: q"}, {"trace add", "1 words: trace"}, {"trace add q", "1 option: q"}, {"trace add variable x", "1 words: trace"}, {"trace info variable", "1 words: trace"}, {"set x 1; trace add variable x(1) read c", "1 array: x(1)"}, {"trace add command q rename c", "1 command: q"}, {"trace add execution set rename c", "1 option: rename"},
		{log + "proc f {} {}; trace add command f {rename delete} log; rename f g; rename g {}; set l", "0 {::f ::g rename} {::g {} delete}"}, {log + "proc f {} {}; trace add command f delete log; proc f {} {}; set l", "0 {::f {} delete}"}, {log + "namespace eval n {proc f {} {}; namespace export f}; namespace import n::f; trace add command n::f delete {log n}; trace add command ::f delete {log i}; namespace delete n; set l", "0 {n ::n::f {} delete} {i ::f {} delete}"}, {log + "proc f {} {}; trace add command f delete bad; rename f {}", "0 "}, {log + "proc f {} {}; trace add command f rename log; trace info command f", "0 {rename log}"},
		{log + "proc f x {return r$x}; trace add execution f {enter leave} log; f {a b}; set l", "0 {{f {a b}} enter} {{f {a b}} 0 {ra b} leave}"}, {log + "proc f x {set ::y 1}; trace add execution f enter bad; list [catch {f 1} m] $m [info exists y]", "0 1 no 0"}, {log + "proc f {} {return 1}; trace add execution f leave bad; f", "1 no"}, {log + "proc f {} {error q}; trace add execution f leave log; catch f; set l", "0 {f 1 q leave}"}, {log + "proc f {} {}; trace add execution f enter break; f", "1 words: break"}, {log + "proc f {} {}; proc b args break; trace add execution f enter b; f", "1 code: break"}, {log + "proc f {} {rename f {}}; trace add execution f leave log; f; set l", "0 "}, {log + "proc f {} {}; proc g args f; trace add execution f enter g; trace add execution f enter log; f; set l", "0 {f enter}"}, {log + "proc t args {trace remove variable ::x write t; log $args}; trace add variable x write t; set x 1; set x 2; set l", "0 {{x {} write}}"}, {log + "proc t args {trace remove variable ::x write log}; trace add variable x write log; trace add variable x write t; set x 1; set l", "0 "}, {log + "proc t args {trace add variable ::x write log}; trace add variable x write t; set x 1; set l", "0 "}, {"proc f {} {set ::x 1}; trace add variable x write f; set x 2", "1 trace: words: f"},
		{"proc w args {uplevel 1 {set x 2}}; trace add variable x write w; set x 1", "0 2"}, {"trace add variable x write {eval eval eval nop}; set x 1", "0 1"}, {"trace add variable x write {eval {eval {error aaaaaaaaaabbbbbbbbbbccccccccccddddddddddeeeee}} ;}; set x 1", "1 trace: aaaaaaaaaabbbbbbbbbbccccccccccdddddddddd"},
	} {
		o := New().Eval(c.script, 2000)
		if got := fmt.Sprintf("%d %s", o.Code, o.Text); got != c.want {
			t.Errorf("case %d, %.160q: %.90q, not %.90q", i, strings.TrimPrefix(c.script, log), got, c.want)
		}
	}
}

func TestFunctions(t *testing.T) {
	for _, c := range []struct {
		kind, ops string
		want      []string
		e         api.Errno
	}{{"variable", "write read write", []string{"write", "read"}, 0}, {"q", "{", nil, 5}, {"command", "{", nil, 2}, {"command", "", nil, 2}, {"execution", "enter rename", nil, 7}, {"execution", "leave enter", []string{"leave", "enter"}, 0}} {
		got, e := Operations(c.kind, c.ops)
		if !slices.Equal(got, c.want) || e != c.e {
			t.Errorf("Operations(%q, %q) = %q, %d", c.kind, c.ops, got, e)
		}
	}
	if strings.Join(Commands(), "") != "trace" {
		t.Error("Commands")
	}
	x := New()
	x.Eval("trace add variable x {read write} error", 100)
	if x.Set("x", "1") != 0 {
		t.Error("Set does traces")
	}
	if v, e := x.Get("x"); v != "1" || e != 0 {
		t.Error("Get does traces")
	}
	if o := x.Eval("trace add variable y write {while 1}; set y 1", 50); o.Code != api.CError {
		t.Errorf("%v", o)
	}
	if o := x.Eval("proc spin args {while 1 {}}; trace add variable z unset spin; set z 1; unset z", 50); o.Code != api.CStop {
		t.Errorf("CStop of a trace: %v", o)
	}
}
