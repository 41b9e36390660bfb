package lists

import (
	"fmt"
	"slices"
	"strings"
	"testing"

	"threadbare/api"
)

func TestScripts(t *testing.T) {
	nines := strings.Repeat("9", 600)
	many := "[lrepeat 10000 a]"
	for i, c := range []struct{ script, want string }{
		{"llength {a {b c}}", "0 2"}, {"llength \\{", "1 list: {"}, {"lindex {a {b c}} 1 0", "0 b"}, {"lindex {a {b c}} {1 0}", "0 b"}, {"lindex {a  b}", "0 a  b"}, {"lindex {a  b} {}", "0 a  b"}, {"lindex {a b} end", "0 b"}, {"lindex {a b} 5", "0 "}, {"lindex {a b} x", "1 index: x"}, {"lindex {a b} \\{", "1 index: {"}, {"lindex \\{ 0", "1 list: {"}, {"lindex {a \\{} 1 0", "1 list: {"}, {"lindex {a b} 7 x", "1 index: x"}, {"lrange {a b c} 1 end", "0 b c"}, {"lrange {a b c} x y", "1 index: x"}, {"lrange \\{ x y", "1 list: {"}, {"lrange a 0", "1 words: lrange"},
		{"lreplace {a b c} 1 1 x {y z}", "0 a x {y z} c"}, {"linsert {a b} 1 x", "0 a x b"}, {"linsert {a b} end x", "0 a b x"}, {"linsert {a b} q x", "1 index: q"}, {"linsert " + many + " 0 b", "1 long"}, {"lreverse {a b c}", "0 c b a"}, {"lrepeat 2 a {b c}", "0 a {b c} a {b c}"}, {"lrepeat -1 a", "0 "}, {"lrepeat x a", "1 number: x"}, {"lrepeat 99999999999999999999 a", "1 long"}, {"lrepeat 99999999999999999999", "0 "}, {"lrepeat 10001 a", "1 long"},
		{"lappend x a {b c}; lappend x d", "0 a {b c} d"}, {"lappend x; set x", "0 "}, {"set x { a  b }; lappend x", "0  a  b "}, {"set x { a  b }; lappend x c", "0 a b c"}, {"set x \\{; lappend x a", "1 list: {"}, {"set x \\{; lappend x", "0 {"}, {"set x(1) a; lappend x b", "1 array: x"}, {"set x " + many + "; lappend x b", "1 long"}, {"set x {a {b c}}; lset x 1 0 q; set x", "0 a {q c}"}, {"lset x 5", "0 5"}, {"lset x 0 5", "1 variable: x"}, {"set x {a b}; lset x 2 c", "0 a b c"}, {"set x {a b}; lset x 3 c", "1 index: 3"}, {"set x {a b}; lset x -1 c", "1 index: -1"}, {"set x {a \\{}; lset x 1 0 c", "1 list: {"}, {"set x {a b}; lset x q c", "1 index: q"}, {"lset x", "1 words: lset"}, {"lassign {1 2 3} a b; list $a $b", "0 1 2"}, {"lassign {1 2 {3 4}} a", "0 2 {3 4}"}, {"lassign 1 a b; set b", "0 "}, {"lassign \\{ a", "1 list: {"},
		{"lsort -integer -decreasing {3 10 2}", "0 10 3 2"}, {"lsort {b a C}", "0 C a b"}, {"lsort -nocase {b a C}", "0 a b C"}, {"lsort -unique {b a b}", "0 a b"}, {"lsort -integer {1 x y}", "1 number: x"}, {"lsort -integer {1 1234567890123456789}", "1 number: 1234567890123456789"}, {"lsort -q a", "1 option: -q"}, {"lsort a b", "1 words: lsort"}, {"lsort", "1 words: lsort"}, {"lsort -q", "0 -q"}, {"lsort -integer -ascii {10 9}", "0 10 9"}, {"lsort \\{", "1 list: {"}, {"proc c {a b} {expr {$a - $b}}; lsort -command c {3 10 2 3}", "0 2 3 3 10"}, {"proc c {a b} {expr {$a - $b}}; lsort -command c -decreasing {3 10 2}", "0 10 3 2"}, {"proc c {a b} {expr {$a - $b}}; lsort -unique -command c {3 03 2}", "0 2 03"}, {"lsort -command {string compare} {b a c}", "0 a b c"}, {"lsort -command {error x} {a b}", "1 words: error"}, {"lsort -command {string cat} {a b}", "1 number: ab"}, {"lsort -command \\{ \\}x\\{", "1 list: {"}, {"lsort -command c", "1 words: lsort"}, {"lsort -command \\{ -ascii {b a}", "0 a b"}, {"lsort -command q {}", "0 "},
		{"lsearch {a b c} b", "0 1"}, {"lsearch {ax bx} *x", "0 0"}, {"lsearch -exact {ax *x} *x", "0 1"}, {"lsearch -nocase {A b} a", "0 0"}, {"lsearch -all {a b a} a", "0 0 2"}, {"lsearch -inline {ab b} a*", "0 ab"}, {"lsearch -inline {b} a*", "0 "}, {"lsearch -all -inline {a1 b a2} a*", "0 a1 a2"}, {"lsearch -not {a b} a", "0 1"}, {"lsearch -start 1 {a b a} a", "0 2"}, {"lsearch -start end {a b a} a", "0 2"}, {"lsearch -start 99 {a b a} a", "0 -1"}, {"lsearch -start -9 {a b a} a", "0 0"}, {"lsearch -start x {a b a} a", "1 index: x"}, {"lsearch -start x \\{ a", "1 index: x"}, {"lsearch -start {a b} a", "1 words: lsearch"}, {"lsearch -q {a b} a", "1 option: -q"}, {"lsearch a", "1 words: lsearch"}, {"lsearch a b c", "1 words: lsearch"}, {"lsearch -x a", "0 -1"}, {"lsearch \\{ a", "1 list: {"},
		{"join {a b c}", "0 a b c"}, {"join {a b c} -,", "0 a-,b-,c"}, {"join \\{", "1 list: {"}, {"join " + many + " xxxxxxx", "1 long"}, {"split a,b, ,", "0 a b {}"}, {"split {a b}", "0 a b"}, {"split abc {}", "0 a b c"}, {"split {} ,", "0 "}, {"split a.b-c .-", "0 a b c"}, {"lflat {{a b} {} c}", "0 a b c"}, {"lflat {a \\{}", "1 list: {"}, {"ldiff {a b a c} {b}", "0 a c"}, {"lcommon {a b a c} {c a}", "0 a c"}, {"lunion {a b a} {c b d c}", "0 a b c d"}, {"ldiff a \\{", "1 list: {"}, {"lcount {a b a} a", "0 2"}, {"lsum {1 0x10 -2}", "0 15"}, {"lsum {}", "0 0"}, {"lsum {1 x}", "1 number: x"}, {"lsum {" + nines + " 5 -6}", "0 " + nines[:599] + "8"}, {"lsum {" + nines + " 5}", "1 long"}, {"lsum {" + nines + "9 x}", "1 long"}, {"lmin {3 0x1 1 2}", "0 0x1"}, {"lmax {3 10 9}", "0 10"}, {"lmax {}", "1 range: "}, {"lmin {1 x}", "1 number: x"},
		{"lzip {a b} {1 2 3}", "0 {a 1} {b 2} {{} 3}"}, {"lzip", "0 "}, {"lzip a \\{", "1 list: {"}, {"lfold a x 0 {1 2 3} {expr {$a + $x}}", "0 6"}, {"lfold a x 0 {1 2 3} {if {$x == 3} break; expr {$a + $x}}", "0 3"}, {"lfold a x 0 {1 2 3} {if {$x == 2} continue; expr {$a + $x}}", "0 4"}, {"lfold a x s {} {error q}", "0 s"}, {"lfold a x 0 {1} {error q}", "1 q"}, {"lfold a x 0 \\{ {}; set a", "1 list: {"}, {"lfold q::a x 0 {} {}", "1 namespace: ::q"}, {"lfold a x 0 1", "1 words: lfold"},
	} {
		o := New().Eval(c.script, 1000)
		if got := fmt.Sprintf("%d %s", o.Code, o.Text); got != c.want {
			t.Errorf("case %d, %.60q: %.60q, not %.60q", i, c.script, got, c.want)
		}
	}
}

func TestFunctions(t *testing.T) {
	if got := strings.Join(Commands(), " "); got != "join lappend lassign lcommon lcount ldiff lflat lfold lindex linsert llength lmax lmin lrange lrepeat lreplace lreverse lsearch lset lsort lsum lunion lzip split" {
		t.Errorf("Commands = %s", got)
	}
	if got := Split("a,b", ","); !slices.Equal(got, []string{"a", "b"}) || Split("", ",") != nil || len(Split("ab", "")) != 2 {
		t.Errorf("Split = %q", got)
	}
	if _, e := Common(nil, nil, 3); e != api.ErrRange {
		t.Error("Common of no kind")
	}
	a := []string{"x", "y", "x"}
	if got, e := Common(a, []string{"y"}, 2); !slices.Equal(got, []string{"x", "y"}) || e != 0 || a[2] != "x" {
		t.Errorf("Common = %q", got)
	}
	lists := [][]string{{"a", "b"}, {"1", "2"}}
	z := Zip(Zip(lists))
	if fmt.Sprint(z) != fmt.Sprint(lists) || len(Zip(nil)) != 0 {
		t.Errorf("Zip = %q", z)
	}
}

func TestGrownLists(t *testing.T) {
	x := New()
	if o := x.Eval("for {set i 0} {$i < 10000} {incr i} {lappend l $i}; list [llength $l] [lindex $l 0] [lindex $l end]", 100000); o.Text != "10000 0 9999" {
		t.Errorf("grown: %v", o)
	}
	if o := x.Eval("catch {lappend l x} m; list $m [llength $l]", 50); o.Text != "long 10000" {
		t.Errorf("one more: %v", o)
	}
	if o := x.Eval("set k [string repeat x 60000]; lappend k a; catch {lappend k [string repeat y 6000]} m; list $m [llength $k] [string length $k]", 50); o.Text != "long 2 60002" {
		t.Errorf("too long: %v", o)
	}
	if o := x.Eval("lappend n; lappend n {}; lappend n; lappend n {a b} c; set n", 50); o.Text != "{} {a b} c" {
		t.Errorf("from nothing: %v", o)
	}
	if o := x.Eval("set p {a  b}; lappend p; append p { c}; lappend p d; lappend p {e f}; set p", 50); o.Text != "a b c d {e f}" {
		t.Errorf("changed in between: %v", o)
	}
}
