package shelf

import (
	"fmt"
	"testing"
)

func TestEdges(t *testing.T) {
	for script, want := range map[string]string{
		"package require csv":                                           "0 1.1",
		"package require csv 1":                                         "0 1.1",
		"package require csv 1.2":                                       "1 package: csv",
		"package require csv 2 1":                                       "0 1.1",
		"package require csv; package require csv 1.0-":                 "0 1.1",
		"package require csv; package require csv =1.0":                 "1 version: csv",
		"package require csv x":                                         "1 requirement: x",
		"package require csv 1 x":                                       "1 requirement: 1 x",
		"package require nope x":                                        "1 requirement: x",
		"package require nope":                                          "1 package: nope",
		"package provide p":                                             "0 ",
		"package provide p 1.0":                                         "0 ",
		"package provide p 1.0; package provide p":                      "0 1.0",
		"package provide p 1.0; package provide p 1":                    "0 ",
		"package provide p 1.0; package provide p 1; package provide p": "0 1.0",
		"package provide p 1.0; package provide p 1.1":                  "1 version: p",
		"package provide p x":                                           "1 version: x",
		"package provide p 1; package provide p x":                      "1 version: x",
		"package ifneeded p 1.0 s; package ifneeded p 1.0":              "0 s",
		"package ifneeded p 1.0":                                        "0 ",
		"package ifneeded p x":                                          "1 version: x",
		"package ifneeded p 1.0 s; package ifneeded p 1 t; list [package ifneeded p 1.0] [package versions p]": "0 t 1",
		"package ifneeded p 1.10 a; package ifneeded p 1.9 b; package versions p":                              "0 1.9 1.10",
		"package versions nope":                                        "0 ",
		"package ifneeded p 1.0 s":                                     "0 ",
		"package present p":                                            "1 package: p",
		"package present p x":                                          "1 requirement: x",
		"package provide p 1.5; package present p 1.2":                 "0 1.5",
		"package provide p 1.5; package present p 2":                   "1 version: p",
		"package present csv":                                          "1 package: csv",
		"package names":                                                "0 csv queue sets tally",
		"package provide a 1; package names":                           "0 a csv queue sets tally",
		"package provide csv 1; package names":                         "0 csv queue sets tally",
		"package forget csv queue; package names":                      "0 sets tally",
		"package provide p 1; package forget p; package provide p":     "0 ",
		"package forget nope":                                          "0 ",
		"package satisfies 1.3 1.2":                                    "0 1",
		"package satisfies 2.0 1.2":                                    "0 0",
		"package satisfies 2.0 1.2 2":                                  "0 1",
		"package satisfies x y":                                        "1 version: x",
		"package satisfies 1 y":                                        "1 requirement: y",
		"package satisfies 1":                                          "0 1",
		"package prefer":                                               "0 stable",
		"package prefer latest; package prefer":                        "0 latest",
		"package prefer latest; package prefer stable; package prefer": "0 stable",
		"package prefer x":                                             "1 option: x",
		"package ifneeded p 1 {package provide p 1}; package ifneeded p 2a1 {package provide p 2a1}; package require p":                        "0 1",
		"package ifneeded p 1 {package provide p 1}; package ifneeded p 2a1 {package provide p 2a1}; package prefer latest; package require p": "0 2a1",
		"package ifneeded p 2a1 {package provide p 2a1}; package require p":                                                                    "0 2a1",
		"package ifneeded p 1 {error e}; package require p":                                                                                    "1 e",
		"package ifneeded p 1 {error e}; catch {package require p}; package ifneeded p 1 {package provide p 1}; package require p":             "0 1",
		"package ifneeded p 1 {break}; package require p":                                                                                      "3 ",
		"package ifneeded p 1 {package provide p 1; return -code error x}; package require p":                                                  "0 1",
		"package ifneeded p 1 {}; package require p":                                                                                           "1 provide: p",
		"package ifneeded p 1 {package provide p 2}; package require p":                                                                        "1 provide: p",
		"package ifneeded p 1 {package provide p 1.0}; package require p":                                                                      "0 1.0",
		"package ifneeded p 1 {package require p}; package require p":                                                                          "1 circle: p",
		"package ifneeded p 1 {package require q; package provide p 1}; package ifneeded q 1 {package require p}; package require p":           "1 circle: p",
		"package ifneeded p 1 {set v 1; set c [namespace current]; package provide p 1}; proc f {} {package require p}; f; list $v $c":         "0 1 ::",
		"package ifneeded p 1 {incr n; package provide p 1}; package require p; package require p; set n":                                      "0 1",
		"package require tally; list [tally::count {a b a}] [tally::most {a b b}] [tally::most {}] [tally::kinds {a b a}]":                     "0 {a 2 b 1} b {} 2",
		"package require sets; list [sets::of a b a] [sets::has {a b} b] [sets::has {a b} c] [sets::add {a b} b c] [sets::drop {a b c} a c] [sets::union {a b} {b c}] [sets::meet {a b c} {b c d} {c}] [sets::less {a b} {b}] [sets::same {a b} {b a}] [sets::same {a} {a b}] [sets::subsets {a b}]": "0 {a b} 1 0 {a b c} b {a b c} c a 1 0 {{} a b {a b}}",
		"package require queue; set q [queue::new]; set p [queue::new]; queue::put $q a b; queue::put $p c; list [queue::get $q] [queue::size $q] [queue::get $p] [queue::size $p] [catch {queue::get $p} m] $m":                                                                                     "0 a 1 c 0 1 empty",
		"package require csv; list [csv::line {a {b c} d,e f\\\"g}] [csv::fields {a,\"b,c\",\"d\"\"e\",}]":                                                                                                                                                                                           "0 {a,b c,\"d,e\",\"f\"\"g\"} {a b,c {d\"e} {}}",
		"package require csv; csv::fields {}": "0 {}",
	} {
		o := New().Eval(script, 5000)
		if got := fmt.Sprintf("%d %s", o.Code, o.Text); got != want {
			t.Errorf("%.200q: %.90q, not %.90q", script, got, want)
		}
	}
}
