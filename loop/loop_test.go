package loop

import (
	"fmt"
	"strings"
	"testing"

	"threadbare/api"
	"threadbare/core"
	"threadbare/inout"
)

func told(x *core.Machine, script string) string {
	o := x.Eval(script, 5000)
	return fmt.Sprintf("%d %s", o.Code, o.Text)
}

func TestScripts(t *testing.T) {
	for i, c := range []struct{ script, want string }{
		{"after 20 {lappend l b}; after 10 {lappend l a}; after 30 {set done 1}; vwait done; list $l [now]", "0 {a b} 30"}, {"after 5 a; after idle b; after 7 c d", "0 after3"}, {"after 5 a; after idle b c; list [after info] [after info after1] [after info after2]", "0 {after1 after2} {a timer 5} {{b c} idle}"}, {"after info q", "1 after: q"}, {"after 5 a; after cancel after1; after cancel q; after info", "0 "}, {"after", "1 words: after"}, {"after q", "1 number: q"}, {"after idle", "1 words: after"}, {"after cancel", "1 words: after"}, {"after info a b", "1 words: after"}, {"after 1000000000001 x", "1 range: 1000000000001"}, {"after 99999999999999999999 x", "1 range: 99999999999999999999"}, {"after -5 x; after info after1", "0 x timer 0"}, {"after 1000000000000; after 5; list [now] [catch {after 1 x}]", "0 1000000000000 1"}, {"after 10; now", "0 10"}, {"after 5 {set x 1}; after 10; info exists x", "0 0"}, {"after 5 {set x 1}; after 10; update; set x", "0 1"},
		{"after idle {lappend l a; after idle {lappend l c}}; after idle {lappend l b}; update; set l", "0 a b c"}, {"after 0 {lappend l t}; after idle {lappend l i}; update idle; set l", "0 i"}, {"update q", "1 option: q"}, {"update a b", "1 words: update"}, {"vwait x", "1 wait: x"}, {"vwait q::x", "1 namespace: ::q"}, {"set x 1; vwait x(1)", "1 array: x(1)"}, {"set x 1; after 5 {set x 1}; vwait x; now", "0 5"}, {"set x 1; after 5 {unset x}; vwait x; now", "0 5"}, {"after 5 {set a(1) 2}; after 7 {set a(2) 2}; vwait a; now", "0 5"}, {"set a(1) 1; after 5 {set a(2) 2}; after 7 {unset a}; vwait a; now", "0 7"}, {"after 5 {upvar 0 x y; set y 1}; vwait x; now", "0 5"}, {"after 5 {error a}; after 6 {set x 1}; vwait x; bgerrors", "0 a"}, {"after 5 {error a}; update; bgerrors", "0 "}, {"proc h args {lappend ::l $args}; set bgerror {h x}; after 0 {error a}; update; list $l [bgerrors] [bgerrors]", "0 {{x a}} a {}"}, {"set bgerror {error q}; after 0 {error a}; update; bgerrors", "0 a"}, {"set bgerror \\{; after 0 {error a}; update; bgerrors", "0 a"}, {"after 0 break; after 0 {return 5}; update; bgerrors", "0 "}, {"after 1 {after 5 {set x in}; vwait x; lappend l inner}; after 2 {lappend l two}; after 3 {set y 1}; vwait y; list $l $x [now]", "0 {two inner} in 6"}, {"proc w {} {after 0 w; vwait q}; w", "1 wait: q"},
		{"event q readable {}", "1 channel: q"}, {"event stdin q {}", "1 option: q"}, {"event stdin readable {a b}; list [event stdin readable] [event stdin writable]", "0 {a b} {}"}, {"event stdin readable x; event stdin readable {}", "0 "}, {"event stdin", "1 words: event"}, {"lassign [pair] a b; event $b readable {lappend l [gets $b]}; puts $a x; puts $a y; flush $a; update; set l", "0 x y"}, {"lassign [pair] a b; event $b readable {lappend l r}; puts $a x; flush $a; update; update; set l", "0 r r"}, {"file put /a x; set f [open /a]; event $f readable {lappend l f}; event $f writable {lappend l w}; update; set l", "0 f w"}, {"lassign [pair] a b; event $b readable {lappend l [gets $b]; if {[eof $b]} {close $b}}; puts -nonewline $a x; close $a; update; list $l [channels p*]", "0 x {}"}, {"lassign [pair] a b; event $a writable {lappend l w}; event $b writable {lappend l v}; after 0 {lappend l t}; after idle {lappend l i}; update; set l", "0 t w v i w v"},
		{"clock format 951782400 %Y-%m-%dT%T", "0 2000-02-29T00:00:00"}, {"clock scan 2000-02-29 %Y-%m-%d", "0 951782400"}, {"clock add 0 1 month", "0 2678400"}, {"clock add 0 1 q", "1 clock: q"}, {"clock format 0 %q", "1 clock: %q"}, {"clock format x %q", "1 number: x"}, {"clock scan x %Y", "1 clock: x"}, {"clock add 0 x day", "1 number: x"}, {"clock add 99999999999999999999 1 day", "1 clock: day"}, {"clock format 99999999999999999999 %Y", "1 clock: %Y"}, {"clock", "1 words: clock"}, {"clock q", "1 option: q"}, {"now x", "1 words: now"}, {"after 3 {set t [now]}; interp create c; interp eval c {after 3 {set t [now]}; after 9; update}; list [now] [interp eval c {now}]", "0 0 9"},
	} {
		if got := told(New(), c.script); got != c.want {
			t.Errorf("case %d, %.140q: %.90q, not %.90q", i, c.script, got, c.want)
		}
	}
}

func TestOutside(t *testing.T) {
	x := New()
	told(x, "after 10 {lappend l a; after 5 {lappend l c}}; after 12 {lappend l b}; after idle {lappend l i}")
	if d, ok := Due(x); d != 10 || !ok || Now(x) != 0 {
		t.Errorf("Due = %d", d)
	}
	if did, o := Turn(x, 100); !did || o != (api.Outcome{}) {
		t.Errorf("Turn: %t, %v", did, o)
	}
	if did, _ := Turn(x, 100); did {
		t.Error("a quiet turn")
	}
	if o := Pass(x, 20, 100); o != (api.Outcome{}) || Now(x) != 20 {
		t.Errorf("Pass: %v, %d", o, Now(x))
	}
	if got := told(x, "set l"); got != "0 i a b c" {
		t.Errorf("passed: %s", got)
	}
	if o := Pass(x, -5, 100); o != (api.Outcome{}) || Now(x) != 20 {
		t.Errorf("Pass back: %v", o)
	}
	told(x, "after 0 {while 1 {}}; after 0 {set after 1}")
	if o := Pass(x, 0, 50); o.Code != api.CStop {
		t.Errorf("Pass with too few steps: %v", o)
	}
	if got := told(x, "info exists after"); got != "0 0" {
		t.Errorf("behind CStop: %s", got)
	}
	if did, o := Turn(x, 0); did || o.Code != api.CStop {
		t.Errorf("Turn without steps: %t, %v", did, o)
	}
	if o := Pass(x, 0, 50); o.Code != api.COk || told(x, "set after") != "0 1" {
		t.Errorf("taken out without a step: %v", o)
	}
	if _, ok := Due(x); ok {
		t.Error("Due of nothing")
	}
	if o := Pass(x, 1<<62, 10); o.Code != 0 || Now(x) != 1000000000000 {
		t.Errorf("the end of time: %d", Now(x))
	}
	for _, pieces := range [][]string{{"a\nb\nc\n"}, {"a", "\nb\n", "c", "\n"}, {"a\nb", "\nc\n"}} {
		y := New()
		told(y, "event stdin readable {lappend l [gets stdin]}")
		for _, p := range pieces {
			inout.Feed(y, "stdin", p)
			Pass(y, 0, 1000)
		}
		if got := told(y, "set l"); got != "0 a b c" {
			t.Errorf("%q: %s", pieces, got)
		}
	}
	z := New()
	told(z, "after 1 {lappend l 1}; after 1 {lappend l 2}; interp limit {} 1")
	if o := Pass(z, 5, 100); o != (api.Outcome{}) {
		t.Errorf("a limit: %v", o)
	}
	a, b := New(), New()
	for _, m := range []*core.Machine{a, b} {
		told(m, "after 3 {lappend l x}; after 8 {lappend l y}; after 5 {error q}")
	}
	Pass(a, 4, 100)
	Pass(a, 6, 100)
	Pass(b, 10, 100)
	if told(a, "list $l [now] [bgerrors]") != told(b, "list $l [now] [bgerrors]") {
		t.Error("passed in two parts")
	}
	if Now(nil) != 0 || strings.Join(Commands(), " ") != "after bgerrors clock event now update vwait" {
		t.Errorf("Commands = %q", Commands())
	}
}

func TestTurnsThatStop(t *testing.T) {
	x := New()
	told(x, "after 0 {set a 1; set b 2; set c 3}; after idle {set d 1}; after idle {set e 1; set f 1}")
	if did, o := Turn(x, 2); !did || o.Code != api.CStop || told(x, "info vars ?") != "0 a" {
		t.Errorf("a timer that was begun: %t, %v", did, o)
	}
	if did, o := Turn(x, 0); did || o.Code != api.CStop || told(x, "after info") != "0 after2 after3" {
		t.Errorf("idle scripts without a step: %t, %v", did, o)
	}
	if did, o := Turn(x, 3); !did || o.Code != api.CStop || told(x, "list [after info] [info exists e]") != "0 {} 0" {
		t.Errorf("idle scripts with too few steps: %t, %v", did, o)
	}
}

func TestManyWait(t *testing.T) {
	x := New()
	if o := x.Eval("set n 0; while {[incr n] <= 9000} {after [expr {9000 - $n}] {incr done}; after idle {incr done}}; llength [after info]", 90000); o.Text != "long" {
		t.Errorf("%v", o)
	}
	if got := told(x, "for {set i 1} {$i < 18000} {incr i 20} {after cancel after$i}; after info after18000"); got != "0 {incr done} idle" {
		t.Error(got)
	}
	if o := Pass(x, 10000, api.MaxSteps); o.Code != api.COk || told(x, "list $done [after info] [now]") != "0 17100 {} 10000" {
		t.Errorf("%v, %s", o, told(x, "list $done [now]"))
	}
}

func TestWaitForElements(t *testing.T) {
	for script, want := range map[string]string{
		"set a(2) 1; after 5 {unset a}; after 7 {set a(1) 1}; vwait a(1); now": "0 7",
		"set a(1) 1; after 5 {unset a}; after 7 {set a(1) 1}; vwait a(1); now": "0 5",
		"after 5 {set a(2) 1}; after 7 {set a(1) 1}; vwait a(1); now":          "0 7",
		"after 5 {catch {unset x}}; after 7 {set x 1}; vwait x; now":           "0 7",
	} {
		if got := told(New(), script); got != want {
			t.Errorf("%q: %s", script, got)
		}
	}
}

func TestManyWaits(t *testing.T) {
	x := New()
	if o := x.Eval("for {set i 0} {$i < 150} {incr i} {after 0 {set x 1}; vwait x}; set i", 5000); o.Text != "150" {
		t.Errorf("waits one after the other: %v", o)
	}
	if o := x.Eval("for {set i 0} {$i < 150} {incr i} {catch {vwait nope}}; set i", 5000); o.Text != "150" {
		t.Errorf("waits in vain: %v", o)
	}
	if o := Pass(x, -1, 10); o != (api.Outcome{}) || Now(x) != 0 {
		t.Errorf("Pass back: %v, %d", o, Now(x))
	}
	if due, ok := Due(x); due != 0 || ok {
		t.Errorf("Due of nothing: %d", due)
	}
	for _, y := range []*core.Machine{nil, New()} {
		if due, ok := Due(y); due != 0 || ok || Now(y) != 0 {
			t.Errorf("Due = %d, Now = %d", due, Now(y))
		}
	}
	if did, o := Turn(nil, 5); did || o.Code != api.CError || o.Text != "machine" {
		t.Errorf("Turn of nothing: %v", o)
	}
	if o := Pass(nil, 5, 5); o.Code != api.CError || o.Text != "machine" {
		t.Errorf("Pass of nothing: %v", o)
	}
}
