package match

import (
	"strings"
	"testing"
)

func TestLaws(t *testing.T) {
	for _, s := range []string{"", "abab", "a,b,,c", "xx\nyy", "{a} [b]"} {
		for _, p := range []string{"a", "", "b*", "[a-c]", ",", "\\w+", "(?:a|b)+", "^", "x|y"} {
			for _, pair := range [][2]string{
				{"llength [regexp -all -inline $p $s]", "regexp -all $p $s"},
				{"regsub -all $p $s &", "set s"},
				{"regsub $p $s {\\0}", "set s"},
				{"regsub -all -command $p $s {string cat}", "set s"},
				{"set q [rquote $s]; if {[regexp -indices $q x$s m]} {lindex $m 0}", "string first $s x$s"},
				{"join [rsplit , $s] ,", "set s"},
				{"regexp $p $s", "expr {[regexp -all $p $s] > 0}"},
			} {
				if s == "" && strings.HasPrefix(pair[1], "string first") {
					continue
				}
				x, y := New(), New()
				x.Set("s", s)
				x.Set("p", p)
				y.Set("s", s)
				y.Set("p", p)
				if a, b := x.Eval(pair[0], 500), y.Eval(pair[1], 500); a != b {
					t.Errorf("%q with %q and %q: %v, not %v", pair[0], s, p, a, b)
				}
			}
		}
	}
}
