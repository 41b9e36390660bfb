package nest

import (
	"fmt"
	"testing"
)

func TestEdges(t *testing.T) {
	for script, want := range map[string]string{
		"interp create c; interp eval c {set x 1}; list [info exists x] [interp eval c {set x}]":                      "0 0 1",
		"interp create a; interp create {a b}; interp eval {a b} {set x 7}; interp eval a {interp eval b {set x}}":    "0 7",
		"interp create a; interp create {a b}; list [interp children {}] [interp children a] [interp children {a b}]": "0 a b {}",
		"interp create b; interp create a; interp children {}":                                                        "0 a b",
		"interp children q":   "1 interp: q",
		"interp exists {a b}": "0 0",
		"interp exists \"{\"": "1 list: {",
		"interp issafe q":     "1 interp: q",
		"interp create -safe s; interp create n; list [interp issafe s] [interp issafe n] [interp issafe {}]": "0 1 0 0",
		"interp create c; interp delete c c":                                      "1 interp: c",
		"interp create a; interp create b; interp delete a b; interp children {}": "0 ",
		"interp delete": "0 ",
		"interp create c; interp alias c f {} list x; interp eval c {f y}":                                                           "0 x y",
		"interp create c; interp alias {} f c list x; f y":                                                                           "0 x y",
		"interp create c; interp alias c f {} list; interp aliases c":                                                                "0 ::f",
		"interp create c; interp alias c f {} list x {y z}; interp target c f":                                                       "0 list x {y z}",
		"interp create c; interp target c set":                                                                                       "1 alias: set",
		"interp create c; interp unalias c f":                                                                                        "1 alias: f",
		"interp create c; interp alias c f {} list; interp unalias c f; interp eval c {f}":                                           "1 command: f",
		"interp create c; interp alias c f {} nope; interp eval c f":                                                                 "1 command: nope",
		"interp create c; interp alias c n::f {} list":                                                                               "1 namespace: ::n",
		"interp create c; interp eval c {namespace eval n {}}; interp alias c n::f {} list":                                          "0 ::n::f",
		"interp alias q f {} list":                                                                                                   "1 interp: q",
		"interp alias {} f q list":                                                                                                   "1 interp: q",
		"interp create c; interp alias {} f c list; interp hide {} f; interp delete c; interp hidden {}":                             "0 ",
		"interp create c; interp alias {} f c list; interp create d; interp alias d g {} f; interp delete c; interp eval d g":        "1 command: f",
		"interp create c; interp create {c d}; interp alias {} f {c d} list; interp delete c; info commands f":                       "0 ",
		"interp create c; interp create d; interp alias {} f c list; interp delete d; f 1":                                           "0 1",
		"set x 1; proc f {} {set x 2; g}; interp alias {} g {} set x; f":                                                             "0 1",
		"interp create c; interp alias c f {} return; interp eval c {f x; error no}":                                                 "2 x",
		"interp create c; interp hide c set; interp eval c {set a 1}":                                                                "1 command: set",
		"interp create c; interp hide c set s; list [interp hidden c] [interp invokehidden c s a 5] [interp eval c {info exists a}]": "0 s 5 1",
		"interp create c; interp hide c set; interp expose c set; interp eval c {set a 1}":                                           "0 1",
		"interp create c; interp hide c set s; interp expose c s; interp eval c {s a 1}":                                             "0 1",
		"interp create c; interp hide c set s; interp expose c s t; interp eval c {t a 1}":                                           "0 1",
		"interp create c; interp hide c nope":                                                                                        "1 command: nope",
		"interp create c; interp hide c set; interp hide c list set":                                                                 "1 exists: set",
		"interp create c; interp expose c nope":                                                                                      "1 command: nope",
		"interp create c; interp hide c set s; interp expose c s list":                                                               "1 exists: list",
		"interp create c; interp hide c set s; interp expose c s n::s":                                                               "1 namespace: ::n",
		"interp create c; interp invokehidden c":                                                                                     "1 words: interp",
		"interp create c; interp invokehidden c nope":                                                                                "1 command: nope",
		"interp create c; interp invokehidden c nope x":                                                                              "1 command: nope",
		"interp create c; interp eval c {namespace eval n {proc f {} {}}}; interp hide c n::f; interp hidden c":                      "0 f",
		"interp hide {} set s; interp invokehidden {} s a 5":                                                                         "0 5",
		"interp create c; interp hide c list; interp hide c error; interp hidden c":                                                  "0 error list",
		"interp create -safe s; interp eval s {interp create c; interp hide c set; interp hidden c}":                                 "0 set",
		"interp create -safe s; interp eval s {interp hide {} set}":                                                                  "1 safe: hide",
		"interp create -safe s; interp eval s {interp expose {} set}":                                                                "1 safe: expose",
		"interp create -safe s; interp eval s {interp invokehidden {} set x}":                                                        "1 safe: invokehidden",
		"interp create -safe s; interp eval s {interp limit {}}":                                                                     "1 safe: limit",
		"interp create -safe s; interp eval s {interp hidden {}}":                                                                    "0 ",
		"interp create -safe s; interp eval s {interp create c; interp limit c 5; interp limit c}":                                   "0 5",
		"interp create c; interp limit c":                                                                                            "0 ",
		"interp create c; interp limit c 5; interp limit c":                                                                          "0 5",
		"interp create c; interp limit c 5; interp eval c {set a 1}; interp limit c":                                                 "0 4",
		"interp create c; interp limit c 5; interp limit c {}; interp limit c":                                                       "0 ",
		"interp create c; interp limit c x":                                                                                          "1 number: x",
		"interp create c; interp limit c -1":                                                                                         "1 range: -1",
		"interp create c; interp limit c 99999999999999999999":                                                                       "1 range: 99999999999999999999",
		"interp create c; interp limit c 0; interp eval c {set a 1}":                                                                 "1 limit",
		"interp create c; interp limit c 0; list [catch {interp eval c {set a 1}} m] $m":                                             "0 1 limit",
		"interp create c; interp limit c 2; interp eval c {catch {set a 1; set b 2; set c 3}; set d 4}":                              "1 limit",
		"interp create c; interp limit c 2; catch {interp eval c {try {set a 1; set b 1; set c 1} finally {set d 1}}}; interp limit c {}; interp eval c {list [info exists a] [info exists b] [info exists d]}": "0 1 0 0",
		"interp create c; interp create {c d}; interp limit c 3; catch {interp eval {c d} {set a 1; set b 2; set c 3; set d 4}} m; list $m [interp limit c]":                                                    "0 limit 0",
		"interp create c; interp create {c d}; interp limit {c d} 1; interp eval c {catch {interp eval d {set a 1; set b 2}} m; set m}":                                                                         "0 limit",
		"interp create c; interp alias c up {} foreach x {1 2 3 4 5} {set y 1}; interp limit c 1; interp eval c up; interp limit c":                                                                             "0 0",
		"interp create c; interp share {} x c y; interp eval c {set y 5}; set x":                                                                                                                                "0 5",
		"set x 1; interp create c; interp share {} x c y; interp eval c {unset y}; info exists x":                                                                                                               "0 0",
		"interp create c; interp eval c {set y 1}; interp share {} x c y":                                                                                                                                       "1 exists: y",
		"interp share {} x {} x":                             "1 circle: x",
		"set x 1; interp create c; interp share {} x(1) c y": "1 array: x(1)",
		"interp create c; interp share {} x c y(1)":          "1 name: y(1)",
		"interp share {} x q y":                              "1 interp: q",
		"interp share {} n::x {} y":                          "1 namespace: ::n",
		"proc t args {lappend ::l $args}; interp create c; interp share {} x c y; trace add variable x write t; set x 1; interp eval c {proc t args {lappend ::l $args}; set y 2; set l}": "0 {y {} write}",
		"proc f {a {b 2}} {list $a $b}; interp create c; interp transfer {} f c; interp eval c {f 1}":                                                                                     "0 1 2",
		"interp create c; interp transfer {} nope c":                                                                                                            "1 command: nope",
		"interp create c; interp transfer {} set c":                                                                                                             "1 proc: set",
		"proc f {} {}; interp transfer {} f q":                                                                                                                  "1 interp: q",
		"namespace eval n {proc f {} {}}; interp create c; interp transfer {} n::f c":                                                                           "1 namespace: ::n",
		"proc f {} {return new}; interp create c; interp eval c {proc f {} {return old}}; interp transfer {} f c; interp eval c f":                              "0 new",
		"interp create c; interp alias c die {} interp delete c; interp eval c {catch die; set ::x 1}":                                                          "1 deleted",
		"interp create c; interp alias c die {} interp delete c; catch {interp eval c {try die finally {set x 1}}} m; list $m [interp exists c]":                "0 deleted 0",
		"interp create c; interp create {c d}; interp alias {c d} die {} interp delete {c d}; interp eval c {list [catch {interp eval d {die; set x 1}} m] $m}": "0 1 deleted",
	} {
		o := New().Eval(script, 5000)
		if got := fmt.Sprintf("%d %s", o.Code, o.Text); got != want {
			t.Errorf("%.200q: %.90q, not %.90q", script, got, want)
		}
	}
}

// TestCreateTellsThePath: as it was given, whatever the canonical list of its names is.
func TestCreateTellsThePath(t *testing.T) {
	for script, want := range map[string]string{
		"interp create c":          "0 c",
		"interp create {c }":       "0 c ",
		"interp create \"c;d\"":    "0 c;d",
		"interp create { {c}\t}":   "0  {c}\t",
		"interp create -safe { c}": "0  c",
		"interp create a; interp create {a  {b}}; interp create {{a} b c}": "0 {a} b c",
		"interp create {c }; interp exists c":                              "0 1",
		"interp create \"c;d\"; interp children {}":                        "0 {c;d}",
		"interp create {c }; interp create c":                              "1 exists: c",
		"interp create c; interp create { c}":                              "1 exists:  c",
		"interp create {{c}d}":                                             "1 list: {c}d",
	} {
		o := New().Eval(script, 5000)
		if got := fmt.Sprintf("%d %s", o.Code, o.Text); got != want {
			t.Errorf("%q: %q, not %q", script, got, want)
		}
	}
}

// TestUnsetWhereAChildEnds: a child that is ended while unset traces are done leaves them there, for all that share the variable.
func TestUnsetWhereAChildEnds(t *testing.T) {
	const shared = "interp create c; interp alias c die {} interp delete c; set x 1; interp share {} x c y; interp eval c {proc u args {nop; nop}; proc k args die}; "
	for _, c := range [][2]string{
		{"trace add variable x {unset write} u; interp eval c {unset y}; list [info exists x] [trace info variable x]", "0 0 {}"},
		{"trace add variable x {unset write} u; interp limit c 2; list [catch {interp eval c {unset y}} m] $m [info exists x] [trace info variable x]", "0 1 limit 0 {{{unset write} u}}"},
		{"trace add variable x {unset write} u; interp limit c 3; list [catch {interp eval c {unset y}} m] $m [trace info variable x]", "0 1 limit {{{unset write} u}}"},
		{"trace add variable x {unset write} u; interp limit c 4; list [catch {interp eval c {unset y}} m] $m [trace info variable x]", "0 0 {} {}"},
		{"trace add variable x {unset write} k; list [catch {interp eval c {unset y}} m] $m [interp exists c] [trace info variable x]", "0 1 deleted 0 {{{unset write} k}}"},
		{"proc see args {lappend ::l [trace info variable ::x]}; interp alias c u {} see; trace add variable x unset u; interp eval c {unset y}; list $l [trace info variable x]", "0 {{{unset u}}} {}"},
	} {
		o := New().Eval(shared+c[0], 5000)
		if got := fmt.Sprintf("%d %s", o.Code, o.Text); got != c[1] {
			t.Errorf("%q: %q, not %q", c[0], got, c[1])
		}
	}
}
