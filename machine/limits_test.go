package machine

import (
	"strings"
	"testing"

	"threadbare/api"
)

func TestLimitsOfTexts(t *testing.T) {
	most := strings.Repeat("x", 65536)
	half := strings.Repeat("y", 32768)
	many := strings.TrimSpace(strings.Repeat("a ", 10000))
	for i, c := range []struct {
		set, script string
		want        string
	}{
		{most, "set b $v; list", ""}, {most, "set b $v$v", "long"}, {most, "set b ${v}z", "long"}, {half, "set b $v$v; list", ""}, {half, "set b $v[set v]; list", ""}, {half, "set b $v[set v]z", "long"}, {most + "x", "set b $v", "long"}, {most + "x", "set v", "long"}, {most + "x", "{*}$v", "long"},
		{most, "expr {$v eq {a}}", "0"}, {most + "x", "expr {$v eq {a}}", "long"}, {most, "expr {\"$v$v\" eq {a}}", "long"}, {most, "expr {0 && \"$v$v\"}", "0"}, {half, "expr {\"$v$v\" eq {a}}", "0"}, {most, "expr {[set v] eq {a}}", "0"},
		{most, "eval set b {$v}; list", ""}, {most, "eval list {$v} a", "long"}, {half, "eval $v $v", "long"}, {half[1:], "catch {eval $v $v} m; list $m", "{command: " + half[:40] + "}"}, {most, "list $v; list", ""}, {most, "list $v a", "long"}, {half, "list $v $v", "long"}, {half[1:], "list $v $v; list", ""},
		{many, "list {*}$v; list", "long"}, {many, "list a {*}$v", "long"}, {many[2:], "list {*}$v; list", ""}, {many + " b", "list {*}$v", "long"}, {many + " b", "catch {list {*}$v} m; set m", "long"}, {many, "list {*}$v {*}$v", "long"}, {"a {", "list {*}$v", "list: a {"},
		{strings.Repeat("9", 600), "expr {$v + 0}", strings.Repeat("9", 600)}, {strings.Repeat("9", 600), "expr {$v + 1}", "long"}, {strings.Repeat("9", 601), "expr {$v + 1}", "long"}, {strings.Repeat("9", 601), "expr {$v && 1}", "truth: " + strings.Repeat("9", 40)},
		{"set b 1", "eval $v", "1"}, {"1 + 1", "expr $v", "2"},
	} {
		x := New()
		if e := x.Set("v", c.set); e != api.OK {
			t.Fatal(e)
		}
		if o := x.Eval(c.script, 1000); o.Text != c.want {
			t.Errorf("case %d, %q: %d, %.50q, not %.50q", i, c.script, o.Code, o.Text, c.want)
		}
	}
	x := New()
	if o := x.Eval("set b "+most+"x", 10); o.Text != "long" {
		t.Errorf("a word that is written and too long: %.20q", o.Text)
	}
	if o := x.Eval("set b "+most+"; list", 10); o != (api.Outcome{}) {
		t.Errorf("a long word: %.20q", o.Text)
	}
	if o := x.Eval(strings.Repeat("list a\n", 20000)+"list b", 100000); o.Text != "b" {
		t.Errorf("a long script: %.20q", o.Text)
	}
}

func TestDepthOfScripts(t *testing.T) {
	nested := func(n int) string {
		s := "set a 1"
		for range n {
			s = "eval {" + s + "}"
		}
		return s
	}
	for n, want := range map[int]string{0: "1", 98: "1", 99: "1", 100: "deep", 101: "deep"} {
		x := New()
		if o := x.Eval(nested(n), 1000); o.Text != want {
			t.Errorf("%d within each other: %q", n+1, o.Text)
		}
		// behind an error scripts are as deep as before
		if o := x.Eval(nested(99), 1000); o.Text != "1" {
			t.Errorf("behind %d: %q", n+1, o.Text)
		}
	}
	x := New()
	if o := x.Eval("catch {"+nested(100)+"} m; set m", 1000); o.Text != "deep" {
		t.Errorf("caught: %q", o.Text)
	}
	brackets := strings.Repeat("[list ", 99) + "a" + strings.Repeat("]", 99)
	if o := x.Eval("set b "+brackets, 1000); o.Text != "a" {
		t.Errorf("brackets count as scripts: %q", o.Text)
	}
	if o := x.Eval("set b ["+brackets+"[list [list x]]]", 1000); o.Code != api.CError {
		t.Errorf("deep brackets: %v", o)
	}
	if o := x.Eval("set b "+strings.Repeat("[list ", 101)+"a"+strings.Repeat("]", 101), 1000); !strings.HasPrefix(o.Text, "script: set b [list") {
		t.Errorf("brackets that are too deep: %q", o.Text)
	}
}

func TestStepsOfAll(t *testing.T) {
	for script, n := range map[string]int{"": 0, "list": 1, "list [list a] [list b]": 3, "set a 1; set b 2": 2, "catch {list a; error x; list b}": 3, "eval {list a}": 2, "{*}{}": 0, "expr {1 + [list 2]}": 2, "expr {0 && [list 2]}": 1, "nope": 1, "set": 1, "list $nope": 0, "list [nope] [list a]": 1} {
		x := New()
		want := x.Eval(script, 1000)
		if x.Left() != 1000-n {
			t.Errorf("%q takes %d steps, not %d", script, 1000-x.Left(), n)
		}
		for steps := range n + 3 {
			x := New()
			o := x.Eval(script, steps)
			if steps < n && o != (api.Outcome{Code: api.CStop, Text: "steps"}) || steps >= n && o != want || x.Left() != max(steps-n, 0) {
				t.Errorf("%q with %d steps: %v, %d left", script, steps, o, x.Left())
			}
		}
	}
	x := New()
	for steps, left := range map[int]int{-5: 0, 0: 0, 100000: 100000, 100001: 100000, 1 << 62: 100000} {
		if x.Eval("", steps); x.Left() != left {
			t.Errorf("with %d steps: %d left", steps, x.Left())
		}
		if x.Expr("1", steps); x.Left() != left {
			t.Errorf("an expression with %d steps: %d left", steps, x.Left())
		}
	}
	if o := x.Expr("1 + [list 2]", 1); o != (api.Outcome{Text: "3"}) || x.Left() != 0 {
		t.Errorf("Expr: %v, %d left", o, x.Left())
	}
	if o := x.Expr("1 + [list 2]", 0); o != (api.Outcome{Code: api.CStop, Text: "steps"}) {
		t.Errorf("Expr without steps: %v", o)
	}
	if o := x.Expr("1 +", 5); o != (api.Outcome{Code: api.CError, Text: "expr: 1 +"}) {
		t.Errorf("a wrong expression: %v", o)
	}
	if o := x.Eval("set a 1; catch {set b 2; set c 3}; set d 4", 3); o.Code != api.CStop {
		t.Errorf("a stop that is caught: %v", o)
	}
	for name, want := range map[string]api.Errno{"a": api.OK, "b": api.OK, "c": api.ErrNone, "d": api.ErrNone} {
		if _, e := x.Get(name); e != want {
			t.Errorf("behind the stop, %s: %d", name, e)
		}
	}
}

func TestVariablesFromOutside(t *testing.T) {
	x := New()
	for word, want := range map[string]api.Errno{"a": 0, "b(1)": 0, "a(1)": api.ErrKind, "b": api.ErrKind, "n::a": api.ErrName, "::a": api.ErrName, "c(n::a)": 0, "": 0} {
		if word == "a(1)" || word == "b" {
			continue
		}
		if e := x.Set(word, "5"); e != want {
			t.Errorf("Set(%q): %d", word, e)
		}
		if s, e := x.Get(word); e != want || e == api.OK && s != "5" {
			t.Errorf("Get(%q) = %q, %d", word, s, e)
		}
	}
	for word, want := range map[string]api.Errno{"a(1)": api.ErrKind, "b": api.ErrKind} {
		if e := x.Set(word, "5"); e != want {
			t.Errorf("Set(%q): %d", word, e)
		}
		if _, e := x.Get(word); e != want {
			t.Errorf("Get(%q): %d", word, e)
		}
	}
	if _, e := x.Get("nope"); e != api.ErrNone {
		t.Errorf("Get of what is not set: %d", e)
	}
	if got := x.Dump(); got != ":: {{} {s 5} a {s 5} b {a {1 5}} c {a {n::a 5}}}" {
		t.Errorf("Dump = %s", got)
	}
	if got := New().Dump(); got != "" {
		t.Errorf("Dump of nothing = %q", got)
	}
	if got := strings.Join(x.Spaces(), " "); got != "::" {
		t.Errorf("Spaces = %q", got)
	}
	if got := strings.Join(x.Commands("*"), " "); got != "::catch ::error ::eval ::expr ::list ::rename ::return ::set ::steps ::unset" {
		t.Errorf("Commands = %q", got)
	}
	if got := strings.Join(x.Commands("::s*"), " "); got != "::set ::steps" {
		t.Errorf("Commands of a pattern = %q", got)
	}
}
