package match

import (
	"fmt"
	"slices"
	"strings"
	"testing"

	"threadbare/api"
)

func TestScripts(t *testing.T) {
	for i, c := range []struct{ script, want string }{
		{"list [regexp {(a+)(b)?} xaab m a b] $m $a $b", "0 1 aab aa b"}, {"regsub -all {\\d} a1b2 <\\\\0>", "0 a<1>b<2>"}, {"list [regexp {(a+)(b)?} xaab m a b c] $m $a $b $c", "0 1 aab aa b {}"}, {"regexp a b m; info exists m", "0 0"}, {"regexp -nocase A a", "0 1"}, {"regexp -line ^b a\\nb", "0 1"}, {"regexp ^b a\\nb", "0 0"}, {"regexp -- -a -a", "0 1"}, {"regexp -q a b", "1 option: -q"}, {"regexp -q", "1 option: -q"}, {"regexp a", "1 words: regexp"}, {"regexp ( a", "1 pattern: ("}, {"regexp -inline a b c", "1 words: regexp"}, {"regexp -inline (a)|(b) b", "0 b {} b"}, {"regexp -inline a b", "0 "}, {"regexp -indices (a)|(b) xb m n o p; list $m $n $o $p", "0 {1 1} {-1 -1} {1 1} {-1 -1}"}, {"regexp -all a banana", "0 3"}, {"regexp -all (.)n banana m n; list $m $n", "0 an a"}, {"regexp -all -inline {(.)n} banana", "0 an a an a"}, {"regexp -all -inline -indices n banana", "0 {2 2} {4 4}"}, {"regexp -indices {} ab m; set m", "0 0 -1"},
		{"regexp -start 2 -inline .n banana", "0 an"}, {"regexp -start 2 ^n banana", "0 0"}, {"regexp -start end a banana", "0 1"}, {"regexp -start 99 a banana", "0 0"}, {"regexp -start -5 b banana", "0 1"}, {"regexp -start x a b", "1 index: x"}, {"regexp -start", "1 words: regexp"}, {"regexp -start 1 -all a banana", "0 3"}, {"regexp -start 2 -all -inline {} abc", "0 {} {}"}, {"regexp a a q::m", "1 namespace: ::q"}, {"regexp {(a)\\1} [string repeat a 201]", "1 long"},
		{"regsub a banana o", "0 bonana"}, {"list [regsub -all a banana o v] $v", "0 3 bonono"}, {"list [regsub x banana o v] $v", "0 0 banana"}, {"regsub -all -command . ab {string cat <}", "0 <a<b"}, {"regsub -command (a)(x)? banana {list}", "0 ba a {}nana"}, {"regsub -command a banana {error q}", "1 words: error"}, {"regsub -command a banana {throw}", "1 a"}, {"regsub -command a b \\{", "1 list: {"}, {"regsub ( b \\{", "1 pattern: ("}, {"regsub a b", "1 words: regsub"}, {"regsub a b c d e", "1 words: regsub"}, {"regsub -start 1 a b c", "1 option: -start"}, {"regsub -all a [string repeat a 40000] bb", "1 long"}, {"regsub -all -command b* abc {string cat}", "0 abc"}, {"proc up args {string toupper [lindex $args 0]}; regsub -all -command {\\w+} {ab cd} up", "0 AB CD"},
		{"glob a* {ab b ac}", "0 ab ac"}, {"glob -not a* {ab b ac}", "0 b"}, {"glob -nocase A* {ab b}", "0 ab"}, {"glob -line a b", "1 option: -line"}, {"glob a \\{", "1 list: {"}, {"glob a", "1 words: glob"}, {"rsplit , a,b,", "0 a b {}"}, {"rsplit -nocase X axb", "0 a b"}, {"rsplit ( a", "1 pattern: ("}, {"rsplit -all a b", "1 option: -all"}, {"rsplit a", "1 words: rsplit"}, {"rquote a.b", "0 a\\.b"}, {"rcheck a(", "0 2"}, {"rcheck a", "0 "}, {"rcheck [string repeat a 5000]", "0 0"},
		{"choose abc {x {set r 1} (b)c {set r $match}}", "0 bc b"}, {"choose abc {x 1}", "0 "}, {"choose abc {x}", "1 words: choose"}, {"choose abc \\{", "1 list: {"}, {"choose abc {b {set r 1} ( 2}", "0 1"}, {"choose abc {( 1 b 2}", "1 pattern: ("}, {"choose abc {}", "0 "}, {"choose a {a {error q}}", "1 q"}, {"set match(1) 2; choose a {a {}}", "1 array: match"}, {"choose", "1 words: choose"},
	} {
		o := New().Eval(c.script, 1000)
		if got := fmt.Sprintf("%d %s", o.Code, o.Text); got != c.want {
			t.Errorf("case %d, %.60q: %.60q, not %.60q", i, c.script, got, c.want)
		}
	}
}

func TestFunctions(t *testing.T) {
	if got := strings.Join(Commands(), " "); got != "choose glob rcheck regexp regsub rquote rsplit" {
		t.Errorf("Commands = %s", got)
	}
	got := Pieces("abc", []api.Span{{From: 0, To: 2}, {From: -1, To: 5}, {From: 2, To: 9}, {From: 2, To: 1}, {From: 3, To: 3}})
	if !slices.Equal(got, []string{"ab", "", "", "", ""}) {
		t.Errorf("Pieces = %q", got)
	}
}
