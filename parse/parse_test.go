package parse

import (
	"slices"
	"strings"
	"testing"

	"threadbare/api"
)

func TestShown(t *testing.T) {
	for s, want := range map[string]string{
		"":                               "",
		" ;\n; # no\n#x\\\n still":       "",
		"set x [f \"$a b\"]; # no":       "command 0\nword\n text set\nword\n text x\nword\n script {f \"$a b\"}\n",
		"{*}{a b} {*} {*};{*}":           "command 0\nspread\n text {a b}\nword\n text *\nword\n text *\ncommand 17\nword\n text *\n",
		"{*}{*}$x":                       "command 0\nspread\n var x\n",
		"{*}\\\n x":                      "command 0\nword\n text *\nword\n text x\n",
		"a$b(c d$e(f))g":                 "command 0\nword\n text a\n var b\n index\n  text {c d}\n  var e\n  index\n   text f\n text g\n",
		"$ $1 $a:b $a::b:::c $:: ${a b}": "command 0\nword\n text {$}\nword\n var 1\nword\n var a\n text :b\nword\n var a::b:::c\nword\n var ::\nword\n var {a b}\n",
		"a\\tb\\x41$b\\[":                "command 0\nword\n text {a\tbA}\n var b\n text {[}\n",
		"{a\\\n \tb} {\\\\\nc} {}":       "command 0\nword\n text {a b}\nword\n text \\\\\\\\\\nc\nword\n text {}\n",
		"a\\\n b\n\\\nc":                 "command 0\nword\n text a\nword\n text b\ncommand 8\nword\n text c\n",
		"\"a\\\n b\" \"\"":               "command 0\nword\n text {a b}\nword\n text {}\n",
		"x [] [a;b\n# ]\n]d":             "command 0\nword\n text x\nword\n script {}\nword\n script {a;b\n# ]\n}\n text d\n",
		"a\"b{c}] }":                     "command 0\nword\n text {a\"b{c}]}\nword\n text \\}\n",
		"$a()":                           "command 0\nword\n var a\n index\n  text {}\n",
		"$a([f \")\"]x];\") y":           "command 0\nword\n var a\n index\n  script {f \")\"}\n  text {x];\"}\nword\n text y\n",
		"[f {]}]":                        "command 0\nword\n script {f {]}}\n",
		"\v\fa\rb":                       "command 2\nword\n text a\nword\n text b\n",
		"${}":                            "command 0\nword\n var {}\n",
	} {
		l, at, e := Script(s)
		if e != api.OK || at != 0 {
			t.Errorf("Script(%q): %d, %d", s, at, e)
		}
		if got := Show(l); got != want {
			t.Errorf("Script(%q) is shown as\n%s, not\n%s", s, got, want)
		}
		if !Complete(s) {
			t.Errorf("Complete(%q)", s)
		}
	}
}

func TestWrong(t *testing.T) {
	deep := strings.Repeat("[", 100)
	for s, want := range map[string]struct {
		at       int
		e        api.Errno
		complete bool
	}{
		"set x {a": {6, api.ErrSyntax, false}, "a \"b": {2, api.ErrSyntax, false}, "a [b": {2, api.ErrSyntax, false}, "a ${b": {2, api.ErrSyntax, false}, "a $b(c": {4, api.ErrSyntax, false}, "a {b}c": {5, api.ErrSyntax, true}, "a \"b\"c {": {5, api.ErrSyntax, true},
		"a [b \"c": {5, api.ErrSyntax, false}, "\"a [b {c}": {3, api.ErrSyntax, false}, "[a;# b]": {0, api.ErrSyntax, false}, "{a\\}": {0, api.ErrSyntax, false}, "[{a}b]": {4, api.ErrSyntax, true}, "$a([b": {3, api.ErrSyntax, false}, "{a}]": {3, api.ErrSyntax, true},
		deep + "f" + strings.Repeat("]", 100): {0, 0, true}, deep + "[": {0, api.ErrLimit, true}, deep: {99, api.ErrSyntax, false}, "x [" + deep: {0, api.ErrLimit, true}, strings.Repeat("$a(", 101): {0, api.ErrLimit, true},
		"a {*}{b": {5, api.ErrSyntax, false},
	} {
		l, at, e := Script(s)
		if at != want.at || e != want.e || e != api.OK && len(l) > 0 {
			t.Errorf("Script(%.20q): %d, %d", s, at, e)
		}
		if Complete(s) != want.complete {
			t.Errorf("Complete(%.20q)", s)
		}
	}
}

func tokens1(l []api.Token) string {
	return Show([]api.Command{{Words: []api.Word{{Tokens: l}}}})
}

func TestParts(t *testing.T) {
	l, at, e := Parts("a \"$b\" [c]\n\\t;")
	if got := tokens1(l); e != api.OK || at != 0 || got != "command 0\nword\n text {a \"}\n var b\n text {\" }\n script c\n text {\n\t;}\n" {
		t.Errorf("Parts: %s, %d", got, e)
	}
	if _, at, e := Parts("ab [c"); e != api.ErrSyntax || at != 3 {
		t.Errorf("Parts of a wrong text: %d, %d", at, e)
	}
	if l, _, e := Parts(""); len(l) != 0 || e != api.OK {
		t.Error("Parts of nothing")
	}
	for _, c := range []struct {
		s                     string
		slashes, vars, script bool
		want                  string
	}{
		{"a\\n$b[c]", false, false, false, " text {a\\n$b[c]}\n"}, {"a\\t$b[c]", true, false, false, " text {a\t$b[c]}\n"}, {"a\\n$b[c]", false, true, false, " text {a\\n}\n var b\n text {[c]}\n"}, {"\\[c $x]", false, false, true, " text \\\\\n script {c $x}\n"},
		{"$b([c]\\t)", false, true, false, " var b\n index\n  text {[c]\\t}\n"}, {"[c \\n\"$d\"", false, false, false, " text {[c \\n\"$d\"}\n"},
	} {
		l, _, e := Subst(c.s, c.slashes, c.vars, c.script)
		if got := strings.TrimPrefix(tokens1(l), "command 0\nword\n"); got != c.want || e != api.OK {
			t.Errorf("Subst(%q) = %s, %d", c.s, got, e)
		}
	}
	if l, _, _ := Subst("", false, false, false); len(l) != 0 {
		t.Error("Subst of nothing")
	}
	for _, c := range []struct {
		s   string
		at  int
		end int
		e   api.Errno
	}{{"x$ab y", 1, 4, 0}, {"$a(b)c", 0, 5, 0}, {"${a b}c", 0, 6, 0}, {"$", 0, 0, api.ErrNone}, {"a", 0, 0, api.ErrNone}, {"a", 9, 0, api.ErrNone}, {"a", -1, 0, api.ErrNone}, {"$(a)", 0, 0, api.ErrNone}, {"$a(", 0, 0, api.ErrSyntax}, {"${a", 0, 0, api.ErrSyntax}, {strings.Repeat("$a(", 101), 0, 0, api.ErrLimit}} {
		v, end, e := Variable(c.s, c.at)
		if end != c.end || e != c.e || e != api.OK && v.Kind != 0 {
			t.Errorf("Variable(%.10q, %d): %d, %d", c.s, c.at, end, e)
		}
	}
}

func TestWalks(t *testing.T) {
	l, _, _ := Script("set a [f [g]$b([h])]; $x; [k]; set; {*}q; w [m {]; w [n \"]\"")
	if len(l) != 0 {
		t.Error("a wrong script has commands")
	}
	l, _, _ = Script("set a [f [g]$b([h])]; $x y; [k]; set; {*}q; w \"[n {]}]\"")
	if got := Names(l); !slices.Equal(got, []string{"set", "f", "g", "h", "k", "w", "n"}) {
		t.Errorf("Names = %q", got)
	}
	if got := Scripts(l); !slices.Equal(got, []string{"f [g]$b([h])", "k", "n {]}"}) {
		t.Errorf("Scripts = %q", got)
	}
	if n := Count(l); n != 11 {
		t.Errorf("Count = %d", n)
	}
	given := []api.Command{{Words: []api.Word{{Tokens: []api.Token{{Kind: api.TScript, Text: "f {"}}}, {}}}}
	if Count(given) != 1 || len(Names(given)) != 0 || Show(given) != "command 0\nword\n script f\\ \\{\nword\n" {
		t.Errorf("a wrong script within: %d, %q", Count(given), Show(given))
	}
	if _, ok := Literal(api.Word{}); ok {
		t.Error("Literal without tokens")
	}
	if s, ok := Literal(api.Word{Tokens: []api.Token{{Kind: api.TText, Text: "a"}}}); !ok || s != "a" {
		t.Error("Literal")
	}
	if _, ok := Literal(api.Word{Spread: true, Tokens: []api.Token{{Kind: api.TText, Text: "a"}}}); ok {
		t.Error("Literal of a spread word")
	}
	for at, want := range map[int]int{-1: 0, 0: 0, 2: 0, 3: 1, 4: 1, 5: 1, 6: 2, 99: 2} {
		if got := Line("ab\ncd\n", at); got != want {
			t.Errorf("Line(%d) = %d", at, got)
		}
	}
}

func TestListsAreCommands(t *testing.T) {
	words := []string{"#a", "", "a b", "a{", "}b", "$x", "[f]", "a\\", "a\\\nb", ";", "\n\t\v", "{*}", "\"", "*", "\\{", "\x00\xff", "a\\\\\n"}
	for i := range words {
		w := append(append([]string(nil), words[i:]...), words[:i]...)
		l, _, e := Script(Quoted(w))
		if e != api.OK || len(l) != 1 || len(l[0].Words) != len(w) {
			t.Fatalf("%q: %d commands, %d", Quoted(w), len(l), e)
		}
		for k, word := range l[0].Words {
			if s, ok := Literal(word); !ok || s != w[k] {
				t.Errorf("%q came back as %q", w[k], s)
			}
		}
	}
	if Quoted(nil) != "" || Quoted([]string{"a b", "#"}) != "{a b} {#}" {
		t.Error("Quoted")
	}
}
