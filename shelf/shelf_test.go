package shelf

import (
	"fmt"
	"strings"
	"testing"

	"threadbare/api"
)

func TestScripts(t *testing.T) {
	for i, c := range []struct{ script, want string }{
		{"package require tally; tally::count {a b a}", "0 a 2 b 1"}, {"package require csv; csv::fields {a,\"b,c\"}", "0 a b,c"}, {"package names", "0 csv queue sets tally"}, {"package versions csv", "0 1.1"}, {"package require csv", "0 1.1"}, {"package require csv 2", "1 package: csv"}, {"package require q", "1 package: q"}, {"package require csv x", "1 requirement: x"}, {"package require csv; package require csv 2", "1 version: csv"}, {"package require csv; package require csv 1", "0 1.1"}, {"package provide a 1.0; list [package provide a] [package provide b] [package present a] [package present a 1]", "0 1.0 {} 1.0 1.0"}, {"package provide a 1.0; package provide a 1.0.0; package provide a", "0 1.0"}, {"package provide a 1.0; package provide a 2", "1 version: a"}, {"package provide a x", "1 version: x"}, {"package present a", "1 package: a"}, {"package present a x", "1 requirement: x"}, {"package provide a 1; package present a 2", "1 version: a"},
		{"package ifneeded a 1.0 {one}; package ifneeded a 1 {two}; list [package ifneeded a 1.0.0] [package versions a] [package ifneeded a 2]", "0 two 1 {}"}, {"package ifneeded a x y", "1 version: x"}, {"package ifneeded a 1 {package provide a 1}; package ifneeded a 2b1 {package provide a 2b1}; package require a", "0 1"}, {"package prefer latest; package ifneeded a 1 {package provide a 1}; package ifneeded a 2b1 {package provide a 2b1}; package require a", "0 2b1"}, {"package prefer", "0 stable"}, {"package prefer q", "1 option: q"}, {"package ifneeded a 1 {error q}; package require a", "1 q"}, {"package ifneeded a 1 {package provide a 1; return x}; package require a", "0 1"}, {"package ifneeded a 1 {}; package require a", "1 provide: a"}, {"package ifneeded a 1 {package provide a 2}; package require a", "1 provide: a"}, {"package ifneeded a 1 {package require b; package provide a 1}; package ifneeded b 1 {package require a}; package require a", "1 circle: a"}, {"package ifneeded a 1 {package require b; package provide a 1}; package ifneeded b 1 {package require a}; catch {package require a}; package require a", "1 circle: a"}, {"package ifneeded a 1 {set v 1; package provide a 1}; namespace eval n {package require a}; set v", "0 1"}, {"package require csv; package forget csv tally; list [package names] [catch {package require csv}]", "0 {queue sets} 1"}, {"package satisfies 1.3 1.2", "0 1"}, {"package satisfies 2 1.2 2-", "0 1"}, {"package satisfies 2", "0 1"}, {"package satisfies x", "1 version: x"}, {"package satisfies 1 x", "1 requirement: x"}, {"package", "1 words: package"}, {"package q", "1 option: q"}, {"package require", "1 words: package"}, {"interp create -safe c; interp eval c {package require sets; sets::union {a b} {b c}}", "0 a b c"},
		{"package require sets; list [sets::of {a b a}] [sets::has {a b} a] [sets::add {a} b a] [sets::drop {a b} a] [sets::meet {a b c} {b c} {c}] [sets::less {a b} {b}] [sets::same {a b} {b a}] [llength [sets::subsets {a b c}]]", "0 {{a b a}} 1 {a b} b c a 1 8"}, {"package require sets; list [sets::of a b a] [sets::subsets {a b}]", "0 {a b} {{} a b {a b}}"}, {"package require queue; set q [queue::new]; queue::put $q a {b c}; list [queue::size $q] [queue::get $q] [queue::get $q] [catch {queue::get $q} m] $m", "0 2 a {b c} 1 empty"}, {"package require queue; list [queue::new] [queue::new]", "0 ::queue::q1 ::queue::q2"}, {"package require csv; csv::line {a {b,c} {d\"e} {}}", "0 a,\"b,c\",\"d\"\"e\","}, {"package require csv; csv::fields [csv::line {a {b,c} {d\"e} {} {f\ng}}]", "0 a b,c {d\"e} {} {f\ng}"}, {"package require tally; list [tally::most {a b b}] [tally::kinds {a b a}] [package provide sets]", "0 b 2 1.0"}, {"set n [steps]; package require csv; set m [steps]; package require csv; expr {$m - [steps]}", "0 4"},
	} {
		o := New().Eval(c.script, 5000)
		if got := fmt.Sprintf("%d %s", o.Code, o.Text); got != c.want {
			t.Errorf("case %d, %.140q: %.90q, not %.90q", i, c.script, got, c.want)
		}
	}
	if strings.Join(Library(), " ") != "csv queue sets tally" || strings.Join(Commands(), "") != "package" {
		t.Error("Library")
	}
	for name, begin := range map[string]string{"sets": "namespace eval ::sets {\n  proc of args {lunion $args {}}\n", "queue": "namespace eval ::queue {\n  variable n 0\n", "csv": "namespace eval ::csv {\n", "tally": "package require sets 1.0\n"} {
		s, e := Source(name)
		if e != 0 || !strings.HasPrefix(s, begin) || !strings.HasSuffix(s, "}\npackage provide "+name+" "+map[bool]string{true: "1.1", false: "1.0"}[name == "csv"]) {
			t.Errorf("Source(%s) = %q", name, s)
		}
	}
	if s, e := Source("q"); s != "" || e != api.ErrName {
		t.Error("Source of none")
	}
}
