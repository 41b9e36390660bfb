package traces

import (
	"fmt"
	"testing"

	"threadbare/api"
)

func TestEdges(t *testing.T) {
	for script, want := range map[string]string{
		"trace add variable x write {lappend log}; set x 5; set log":                                                                                                                "0 x {} write",
		"trace add variable x read {set x 7 ;list}; list":                                                                                                                           "0 ",
		"proc t args {global x; set x 7}; trace add variable x read t; set x":                                                                                                       "0 7",
		"proc t args {lappend ::l $args}; trace add variable a write t; set a(1) 5; set l":                                                                                          "0 {a 1 write}",
		"proc t args {lappend ::l $args}; trace add variable a(1) write t; set a(1) 5; set a(2) 6; set l":                                                                           "0 {a 1 write}",
		"proc t {n args} {lappend ::l $n}; trace add variable a write {t whole}; trace add variable a(1) write {t own}; set a(1) 5; set l":                                          "0 whole own",
		"proc t {n args} {lappend ::l $n}; trace add variable a write {t 1}; trace add variable a write {t 2}; set a 5; set l":                                                      "0 2 1",
		"trace add variable a write {error no}; set a 1":                                                                                                                            "1 trace: words: error",
		"proc t args {error no}; trace add variable a write t; set a 1":                                                                                                             "1 trace: no",
		"proc t args {error no}; trace add variable a write t; catch {set a 1}; trace remove variable a write t; set a":                                                             "0 1",
		"proc t args {error no}; trace add variable a read t; set a 1; set a":                                                                                                       "1 trace: no",
		"proc t args {return -code break}; trace add variable a read t; set a 1; set a":                                                                                             "1 trace: ",
		"proc t args {error no}; trace add variable a unset t; set a 1; unset a; info exists a":                                                                                     "0 0",
		"proc t args {return -code return x}; trace add variable a write t; set a 1":                                                                                                "1 trace: x",
		"proc t args {unset ::a}; trace add variable a read t; set a 1; set a":                                                                                                      "1 variable: a",
		"proc t args {unset ::a}; trace add variable a write t; set a 1":                                                                                                            "0 ",
		"proc t args {set ::a 9}; trace add variable a write t; set a 1":                                                                                                            "0 9",
		"proc t args {set ::a 9}; trace add variable a write t; incr a 5":                                                                                                           "0 9",
		"proc t args {set ::a 9}; trace add variable a write t; append a x":                                                                                                         "0 9",
		"proc t args {incr ::n}; trace add variable a read t; set a 1; incr a; append a x; set b $a; set n":                                                                         "0 3",
		"proc t args {lappend ::l $args}; trace add variable a unset t; set a 1; unset a; set a 2; unset a; set l":                                                                  "0 {a {} unset}",
		"proc t args {lappend ::l $args}; set a(1) 1; trace add variable a unset t; trace add variable a(1) unset t; unset a; set l":                                                "0 {a {} unset}",
		"proc t args {lappend ::l $args}; set a(1) 1; trace add variable a unset {t w}; trace add variable a(1) unset {t e}; unset a(1); set l":                                     "0 {w a 1 unset} {e a 1 unset}",
		"proc t args {lappend ::l $args}; set a(1) 1; trace add variable a(1) write t; unset a; set a(1) 2; info exists l":                                                          "0 0",
		"proc t args {lappend ::l $args}; proc u args {unset ::a}; trace add variable a write {t 1}; trace add variable a write u; set a 1; info exists l":                          "0 0",
		"proc t args {lappend ::l $args}; trace add variable a(1) write {t 1}; set a 5; unset a; set a(1) 2; info exists l":                                                         "0 0",
		"proc t args {lappend ::l $args}; trace add variable b(1) write t; set a(1) 1; unset a; set b(1) 2; set l":                                                                  "0 {b 1 write}",
		"proc t args {trace remove variable ::a write t; incr ::n}; trace add variable a write t; set a 1; set a 2; set n":                                                          "0 1",
		"proc t args {incr ::n; trace add variable ::a write t}; trace add variable a write t; set a 1; set n":                                                                      "0 1",
		"proc t {k args} {append ::l $k; if {$k == 2} {trace remove variable ::a write {t 1}}}; trace add variable a write {t 1}; trace add variable a write {t 2}; set a 1; set l": "0 2",
		"proc t args {set ::a 5; incr ::n}; trace add variable a write t; set a 1; list $a $n":                                                                                      "0 5 1",
		"proc t args {lappend ::l $args}; proc f {} {upvar #0 a b; set b 1}; trace add variable a write t; f; set l":                                                                "0 {b {} write}",
		"proc t args {lappend ::l $args}; namespace eval n {variable x; trace add variable x write ::t}; set n::x 1; set l":                                                         "0 {n::x {} write}",
		"proc t args {lappend ::l [namespace current]}; trace add variable ::a write ::t; namespace eval n {set ::a 1}; set l":                                                      "0 ::",
		"trace add variable a write {set b}; set a 1":                                                                                                                               "1 trace: words: set",
		"trace add variable a {write read write} {x y}; trace info variable a":                                                                                                      "0 {{write read} {x y}}",
		"trace add variable a write x; trace add variable a read y; trace info variable a":                                                                                          "0 {read y} {write x}",
		"trace add variable a {read write} x; trace remove variable a {write read} x; trace info variable a":                                                                        "0 ",
		"trace add variable a {read write} x; trace remove variable a read x; trace info variable a":                                                                                "0 {{read write} x}",
		"trace add variable a read x; trace remove variable a read y; trace info variable a":                                                                                        "0 {read x}",
		"trace add variable a read x; trace add variable a read x; trace remove variable a read x; trace info variable a":                                                           "0 {read x}",
		"trace info variable a":                   "0 ",
		"trace info variable n::a":                "1 namespace: ::n",
		"set a 1; trace add variable a(1) read x": "1 array: a(1)",
		"trace add variable a {} x":               "1 list: ",
		"trace add variable a \"{\" x":            "1 list: {",
		"trace add variable a nope x":             "1 option: nope",
		"trace add variable a {read nope} \"{\"":  "1 option: nope",
		"trace add variable a enter x":            "1 option: enter",
		"trace add variable a read \"{\"":         "1 list: {",
		"trace remove variable a read \"{\"":      "0 ",
		"trace add variable a { } x":              "1 list:  ",
		"proc t args {lappend ::l $args}; proc f {} {}; trace add command f {rename delete} t; rename f g; rename g {}; set l":                                                        "0 {::f ::g rename} {::g {} delete}",
		"proc t args {lappend ::l $args}; proc f {} {}; trace add command f delete t; proc f {} {}; rename f {}; set l":                                                               "0 {::f {} delete}",
		"proc t args {lappend ::l $args}; namespace eval n {proc f {} {}; proc g {} {}}; trace add command n::g delete t; trace add command n::f delete t; namespace delete n; set l": "0 {::n::f {} delete} {::n::g {} delete}",
		"proc t args {error no}; proc f {} {}; trace add command f {rename delete} t; rename f g; rename g {}":                                                                        "0 ",
		"proc f {} {}; trace add command f rename x; rename f g; trace info command g":                                                                                                "0 {rename x}",
		"trace add command nope rename x":           "1 command: nope",
		"trace info command nope":                   "1 command: nope",
		"proc f {} {}; trace add command f enter x": "1 option: enter",
		"proc t args {lappend ::l $args}; namespace eval n {proc f {} {}; namespace export f}; namespace import n::f; trace add command f delete {t i}; trace add command n::f delete {t o}; rename n::f {}; set l": "0 {o ::n::f {} delete} {i ::f {} delete}",
		"proc t args {lappend ::l $args}; proc f x {list r$x}; trace add execution f {enter leave} t; f 1; set l":                                                                                                   "0 {{f 1} enter} {{f 1} 0 r1 leave}",
		"proc t args {lappend ::l $args}; proc f x {error e$x}; trace add execution f leave t; catch {f 1}; set l":                                                                                                  "0 {{f 1} 1 e1 leave}",
		"proc t args {return -code return x}; proc f {} {error no}; trace add execution f enter t; f":                                                                                                               "2 x",
		"proc t args {error e}; proc f {} {set ::a 1}; trace add execution f {enter leave} t; list [catch f m] $m [info exists a]":                                                                                  "0 1 e 0",
		"proc t args {error e}; proc f {} {set ::a 1}; trace add execution f leave t; list [catch f m] $m [info exists a]":                                                                                          "0 1 e 1",
		"proc t {n args} {append ::l $n; if {$n == 2} {error e}}; proc f {} {}; trace add execution f leave {t 1}; trace add execution f leave {t 2}; trace add execution f leave {t 3}; catch f; set l":            "0 32",
		"proc t args {incr ::n; f}; proc f {} {}; trace add execution f enter t; f; set n":                                                                                                                          "0 1",
		"proc t args {incr ::n}; proc f {} {}; trace add execution f enter t; rename f g; g; set n":                                                                                                                 "0 1",
		"proc t args {incr ::n}; namespace eval a {proc f {} {}; namespace export f}; namespace import a::f; trace add execution f enter t; f; a::f; set n":                                                         "0 1",
		"proc t args {incr ::n}; proc f {} {rename f {}}; trace add execution f leave t; f; info exists n":                                                                                                          "0 0",
		"proc t args {rename f {}}; proc f {} {}; trace add execution f enter t; f":                                                                                                                                 "1 command: f",
		"proc t args {incr ::n}; proc f {} {}; trace add execution f enter t; proc f {} {}; f; info exists n":                                                                                                       "0 0",
		"proc f {} {}; trace add execution f read x": "1 option: read",
		"trace info execution set":                   "0 ",
		"proc t args {lappend ::l $args}; array set a {x 1 y 2}; trace add variable a read t; array get a; set l":                                                                                 "0 {a x read} {a y read}",
		"proc t args {lappend ::l $args}; trace add variable a write t; array set a {x 1 y 2}; set l":                                                                                             "0 {a x write} {a y write}",
		"proc t args {lappend ::l $args}; array set a {x 1 y 2}; trace add variable a {read write unset} t; list [array names a] [array size a] [array exists a] [info exists a] [info exists l]": "0 {x y} 2 1 1 0",
		"proc t args {unset ::a(x)}; array set a {x 1 y 2}; trace add variable a(x) read t; array get a":                                                                                          "1 variable: a(x)",
		"proc t args {catch {unset ::a(y)}}; array set a {x 1 y 2 z 3}; trace add variable a(x) unset t; array unset a *; array size a":                                                           "0 0",
		"set a(1) 1; proc t args {incr ::n}; trace add variable a read t; catch {set a}; set n":                                                                                                   "0 1",
	} {
		o := New().Eval(script, 5000)
		if got := fmt.Sprintf("%d %s", o.Code, o.Text); got != want {
			t.Errorf("%.200q: %.90q, not %.90q", script, got, want)
		}
	}
}

// TestElementsOfScalars: where an element of a scalar is asked, neither its traces nor the scalar's are done.
func TestElementsOfScalars(t *testing.T) {
	const log = "proc t args {lappend ::l $args}; set l {}; "
	for script, want := range map[string]string{
		"set a s; trace add variable a {read write unset} t; catch {set b $a(x)} m; list $m $l":                    "0 {array: a(x)} {}",
		"set a s; trace add variable a {read write unset} t; catch {set a(x)} m; list $m $l":                       "0 {array: a(x)} {}",
		"set a s; trace add variable a {read write unset} t; catch {set a(x) 1} m; list $m $l":                     "0 {array: a(x)} {}",
		"set a s; trace add variable a {read write unset} t; catch {incr a(x)} m; list $m $l":                      "0 {array: a(x)} {}",
		"set a s; trace add variable a {read write unset} t; catch {append a(x) y} m; list $m $l":                  "0 {array: a(x)} {}",
		"set a s; trace add variable a {read write unset} t; catch {lappend a(x) y} m; list $m $l":                 "0 {array: a(x)} {}",
		"set a s; trace add variable a {read write unset} t; catch {lset a(x) 0 y} m; list $m $l":                  "0 {array: a(x)} {}",
		"set a s; trace add variable a {read write unset} t; catch {dict set a(x) k v} m; list $m $l":              "0 {array: a(x)} {}",
		"set a s; trace add variable a {read write unset} t; catch {unset a(x)} m; list $m $l":                     "0 {array: a(x)} {}",
		"set a s; trace add variable a {read write unset} t; catch {expr {$a(x)}} m; list $m $l":                   "0 {array: a(x)} {}",
		"set a s; trace add variable a read {error no}; set a(x)":                                                  "1 array: a(x)",
		"set a s; trace add variable a read t; set a; set l":                                                       "0 {a {} read}",
		"trace add variable a(1) {read write} t; set a 7; catch {set b $a(1)} m; list $m $l":                       "0 {array: a(1)} {}",
		"trace add variable a(1) {read write} t; set a 7; catch {incr a(1)} m; list $m $l":                         "0 {array: a(1)} {}",
		"upvar 0 a(1) b; trace add variable b {read write} t; set a 7; catch {set b} m; list $m $l":                "0 {array: b} {}",
		"set a s; upvar 0 a b; trace add variable a read t; catch {set b(x)} m; list $m $l":                        "0 {array: b(x)} {}",
		"set a(1) 1; upvar 0 a(1) b; trace add variable a read t; catch {set b(x)} m; list $m $l":                  "0 {array: b(x)} {}",
		"set a(1) 1; trace add variable a read t; catch {set a} m; list $m $l":                                     "0 {array: a} {{a {} read}}",
		"set a(1) 1; trace add variable a read t; catch {set a(2)} m; list $m $l":                                  "0 {variable: a(2)} {{a 2 read}}",
		"trace add variable a(1) read t; catch {set a(1)} m; list $m $l":                                           "0 {variable: a(1)} {{a 1 read}}",
		"proc s args {set ::a(1) 5}; trace add variable a(1) read s; set a(1)":                                     "0 5",
		"set a s; trace add variable a write t; unset a; set a(1) 2; trace add variable a read t; set a(1); set l": "0 {a 1 read}",
		"namespace eval n {set a s}; trace add variable n::a read t; catch {set n::a(x)} m; list $m $l":            "0 {array: n::a(x)} {}",
	} {
		o := New().Eval(log+script, 5000)
		if got := fmt.Sprintf("%d %s", o.Code, o.Text); got != want {
			t.Errorf("%q: %q, not %q", script, got, want)
		}
	}
}

// TestUnsetInOrder: what is unset has its traces while they are done; behind that those go, and what was added meanwhile stays.
func TestUnsetInOrder(t *testing.T) {
	const see = "set l {}; proc see {v args} {lappend ::l [trace info variable ::$v]}; proc log {w args} {lappend ::l $w}; "
	for _, c := range [][2]string{
		{"set n 3; trace add variable n {unset write} {see n}; unset n; list $l [trace info variable n]", "0 {{{{unset write} {see n}}}} {}"},
		{"set n 3; trace add variable n unset {see n}; trace add variable n write w; trace add variable n {read unset} {see n}; unset n; list [llength $l] [lindex $l 0] [lindex $l 1] [trace info variable n]", "0 2 {{{read unset} {see n}} {write w} {unset {see n}}} {{{read unset} {see n}} {write w} {unset {see n}}} {}"},
		{"set n 3; trace add variable n unset {see n}; upvar 0 n m; unset m; list $l [trace info variable n] [trace info variable m]", "0 {{{unset {see n}}}} {} {}"},
		{"set n 3; trace add variable n write w; unset n; trace info variable n", "0 "},
		{"set n 3; trace add variable n write w; catch {unset n(x)}; trace info variable n", "0 {write w}"},
		{"trace add variable n {unset write} {see n}; catch {unset n} m; list $m $l [trace info variable n]", "0 {variable: n} {} {{{unset write} {see n}}}"},
		{"set a(1) 1; set a(2) 2; trace add variable a(1) unset {see a(1)}; trace add variable a(2) unset {see a(1)}; trace add variable a unset {see a(1)}; unset a(1); list $l [trace info variable a] [trace info variable a(1)] [trace info variable a(2)]", "0 {{{unset {see a(1)}}} {{unset {see a(1)}}}} {{unset {see a(1)}}} {} {{unset {see a(1)}}}"},
		{"set a(1) 1; trace add variable a(1) unset {log 1}; trace add variable a(2) write {log 2}; trace add variable a unset {see a(1)}; trace add variable a unset {see a(2)}; unset a; list $l [trace info variable a] [trace info variable a(1)] [trace info variable a(2)]", "0 {{{write {log 2}}} {{unset {log 1}}}} {} {} {}"},
		{"set s 1; trace add variable s unset {see s(1)}; unset s; list $l [trace info variable s(1)]", "0 {{}} {}"},
		{"trace add variable s(1) write w; set s 1; trace add variable s unset {see s(1)}; unset s; list $l [trace info variable s(1)]", "0 {{{write w}}} {}"},
		{"array set a {1 x 2 y}; trace add variable a(1) unset {see a(1)}; array unset a *; list $l [trace info variable a(1)]", "0 {{{unset {see a(1)}}}} {}"},
		{"array set a {1 x 2 y}; trace add variable a unset {see a}; array unset a; list $l [trace info variable a]", "0 {{{unset {see a}}}} {}"},
		{"namespace eval q {set x 1}; trace add variable q::x unset {see q::x}; upvar 0 q::x x; namespace delete q; list $l [trace info variable x]", "0 {{{unset {see q::x}}}} {}"},
		{"proc take args {trace remove variable ::n unset {log 1}; trace remove variable ::n write w}; set n 1; trace add variable n unset {log 1}; trace add variable n write w; trace add variable n unset {log 2}; trace add variable n unset take; unset n; list $l [llength [trace info variable n]]", "0 2 0"},
		{"proc more args {trace add variable ::n unset {log new}}; set n 1; trace add variable n unset {log 1}; trace add variable n unset more; unset n; list $l [trace info variable n] [set n 2] [unset n] $l", "0 1 {{unset {log new}}} 2 {} {1 new}"},
		{"proc more args {trace add variable ::a(1) unset {log new}}; set a(1) 1; trace add variable a(1) unset {log 1}; trace add variable a unset more; unset a; list $l [trace info variable a(1)] [trace info variable a]", "0 {} {{unset {log new}}} {}"},
		{"proc more args {trace add variable ::a(1) unset {log new}}; set a(1) 1; trace add variable a(1) unset {log 1}; trace add variable a unset more; unset a(1); list $l [trace info variable a(1)]", "0 {new 1} {}"},
		{"proc again args {set ::n 5}; set n 1; trace add variable n write {log w}; trace add variable n unset {log u}; trace add variable n unset again; unset n; list $l $n [trace info variable n] [set n 6] $l", "0 u 5 {} 6 u"},
		{"proc twice args {set ::n 5; unset ::n}; set n 1; trace add variable n unset {log 1}; trace add variable n unset twice; trace add variable n unset {log 2}; unset n; list $l [trace info variable n]", "0 2 {}"},
		{"proc kill args {unset ::n; see n}; set n 1; trace add variable n unset {log u}; trace add variable n read kill; catch {set n}; list $l [trace info variable n]", "0 {{}} {}"},
		{"proc kill args {set ::a(1) 2; unset ::a}; set a(1) 1; trace add variable a(1) unset {log 1}; trace add variable a unset {log 2}; trace add variable a unset kill; unset a(1); list $l [trace info variable a] [trace info variable a(1)]", "0 {} {} {}"},
		{"proc twice args {set ::a(1) 2; unset ::a(1)}; set a(1) 1; trace add variable a(1) {write unset} {log 1}; trace add variable a unset {log 2}; trace add variable a unset twice; unset a(1); list $l [trace info variable a(1)]", "0 {1 1 2} {}"},
	} {
		o := New().Eval(see+c[0], 5000)
		if got := fmt.Sprintf("%d %s", o.Code, o.Text); got != c[1] {
			t.Errorf("%q: %q, not %q", c[0], got, c[1])
		}
	}
}

// TestUnsetStopped: a stop ends everything, so what it found is not gone; the variable itself was unset ahead of that.
func TestUnsetStopped(t *testing.T) {
	const traced = "proc u args {nop; nop}; trace add variable n {write unset} u; trace add variable n unset u; trace add variable n(1) unset u; trace add variable n(2) write u; "
	const told = "list [trace info variable n] [trace info variable n(1)] [trace info variable n(2)] [info exists n(1)]"
	for _, c := range []struct{ set, unset, behind string }{
		{"set n 3; ", "unset n", "{} {} {} 0"},
		{"set n(1) 3; ", "unset n", "{} {} {} 0"},
		{"set n(1) 3; ", "array unset n", "{} {} {} 0"},
		{"set n(1) 3; ", "unset n(1)", "{{unset u} {{write unset} u}} {} {{write u}} 0"},
	} {
		stops := 0
		for steps := 1; ; steps++ {
			x := New()
			x.Eval(traced+c.set, 100)
			o := x.Eval(c.unset, steps)
			want := c.behind
			if o.Code == api.CStop {
				want = "{{unset u} {{write unset} u}} {{unset u}} {{write u}} 0"
				stops++
			}
			if got := x.Eval(told, 100); got.Text != want {
				t.Errorf("%s%s with %d steps: %s, not %s", c.set, c.unset, steps, got.Text, want)
			}
			if o.Code != api.CStop {
				break
			}
		}
		if stops < 6 {
			t.Errorf("%s%s stops %d times", c.set, c.unset, stops)
		}
	}
	// behind a stop they are traces as before: nothing marks them any more
	x := New()
	x.Eval("proc u args {lappend ::l $args}; set n 3; trace add variable n {write unset} u", 100)
	x.Eval("unset n", 1)
	if o := x.Eval("set n 4; unset n; set n 5; set l", 100); o.Text != "{n {} write} {n {} unset}" {
		t.Errorf("traces behind a stop: %v", o)
	}
}
