package expr

import (
	"slices"
	"strings"
	"testing"

	"threadbare/api"
)

func TestNumbersOfOperands(t *testing.T) {
	for name, most := range map[string]int{"abs": 1, "sign": 1, "root": 1, "not": 1, "bool": 1, "gcd": 2, "pow": 2, "min": 9, "max": 9} {
		for n := range 5 {
			right := n > 0 && n <= most && (n == most || most == 9)
			result, problem := Call(name, slices.Repeat([]string{"1"}, n))
			if right == (problem == "function: "+name) || !right && result != "" {
				t.Errorf("%s of %d: %q, %q", name, n, result, problem)
			}
		}
	}
	for _, op := range append(Operators(), "~", "!") {
		for n := range 4 {
			right := n == 1 && strings.Contains("- + ~ !", op) || n == 2 && Level(op) > 0 && op != "&&" && op != "||"
			result, problem := Apply(op, slices.Repeat([]string{"1"}, n))
			if right == (problem == "operator: "+op) || !right && result != "" {
				t.Errorf("%s of %d: %q, %q", op, n, result, problem)
			}
		}
	}
	if _, problem := Apply(strings.Repeat("x", 50), nil); problem != "operator: "+strings.Repeat("x", 40) {
		t.Errorf("an operator that there is not: %q", problem)
	}
	if _, problem := Call(strings.Repeat("x", 50), nil); problem != "function: "+strings.Repeat("x", 40) {
		t.Errorf("a function that there is not: %q", problem)
	}
}

func TestTruths(t *testing.T) {
	for s, want := range map[string]bool{"true": true, "yes": true, "on": true, "1": true, "-0x1": true, " 2 ": true, "false": false, "no": false, "off": false, "0": false, "-0": false} {
		if is, problem := Truth(s); is != want || problem != "" {
			t.Errorf("Truth(%q) = %t, %q", s, is, problem)
		}
		bit := map[bool]string{true: "1", false: "0"}
		yes, _ := Call("bool", []string{s})
		not, _ := Call("not", []string{s})
		sign, _ := Apply("!", []string{s})
		if yes != bit[want] || not != bit[!want] || sign != bit[!want] {
			t.Errorf("of %q: %s, %s, %s", s, yes, not, sign)
		}
	}
	for _, s := range []string{"", "True", "x", "1 2", strings.Repeat("9", 601)} {
		is, problem := Truth(s)
		_, p1 := Call("bool", []string{s})
		_, p2 := Call("not", []string{s})
		_, p3 := Apply("!", []string{s})
		if want := "truth: " + s[:min(len(s), 40)]; is || problem != want || p1 != want || p2 != want || p3 != want {
			t.Errorf("Truth(%.9q) = %t, %q, %q, %q, %q", s, is, problem, p1, p2, p3)
		}
	}
}

func TestWrongPlaces(t *testing.T) {
	for s, want := range map[string]int{
		"": 0, " \t": 2, "1 +": 3, "1 + ": 4, "(1": 2, "(1 ": 3, "1)": 1, "1 2": 2, "f(1": 3, "f(1,": 4, "f(1,)": 4, "f()": 2, "f(1 2)": 4, "a": 0, "1 + a": 4, "1 ? 2": 5, "1 ? 2 :": 7, "1 ? : 2": 4, "?": 0, "* 2": 0, "1 ** ": 5, "1 eqx 2": 2, "1 eq2": 2, "1 eq_ 2": 2, "1 eq": 4, "eq 1 2": 0, "1 in": 4,
		"1_000": 1, "08x": 0, "1eq 2": 0, "0x": 0, "1a": 0, "0xg": 0, strings.Repeat("9", 601): 0, "1 = 2": 2, "1 & & 2": 4, "\"a": 0, "1 + {a": 4, "[f": 0, "$a(": 0, "${a": 0, "$": 0, "1 + $": 4, "true(": 5, "yes(1": 5, "no (": 4, "no ()": 4, "no ( 1": 6, "off\t \n(": 7, "on (1 2)": 6, "true (1,": 8, "false (1) (2)": 10, "no 1": 3, "no  off": 4, "no )": 3, "yes {a}": 4, "true $a (1)": 5, "truex (1": 8, "tru": 0, "tru 1": 0, "-": 1, "!": 1, "1;": 1, "1 ]": 2, "{a}b": 3, "_a": 0, "truex": 0, "true_": 0, "off1": 0, "@": 0, "1 ! 2": 2, "1 ~ 2": 2, ",": 0,
	} {
		n, at, e := Parse(s)
		if at != want || e != api.ErrSyntax || n.Kind != 0 {
			t.Errorf("Parse(%.20q) = %d, %d, not at %d", s, at, e, want)
		}
	}
	deep := strings.Repeat("[", 101)
	for _, s := range []string{deep, "\"" + deep, strings.Repeat("$a(", 101), "1 + " + deep, strings.Repeat("-", 100) + "1", strings.Repeat("1+", 100) + "1"} {
		if _, at, e := Parse(s); at != 0 || e != api.ErrLimit {
			t.Errorf("Parse(%.20q) = %d, %d", s, at, e)
		}
	}
	for _, s := range []string{strings.Repeat("-", 99) + "1", strings.Repeat("1+", 99) + "1", strings.Repeat("(", 500) + "1" + strings.Repeat(")", 500), "1 eq{a}", "1 eq\"a\"", "1 in$a", "08", "az(1)", "AZ(1)", "a09_z(1)", "z(1)", "Z(1)", "true", "no\n", "f (1)", "f\t( 1 , 2 )", "{a}eq 1", "\"a\"ne\"b\"", "1?2:3", "!!1", "- - 2", "1<-1", "1==!0"} {
		if _, _, e := Parse(s); e != api.OK {
			t.Errorf("Parse(%.20q): %d", s, e)
		}
	}
}

func word(s string) api.Node {
	return api.Node{Kind: api.NWord, Text: s, Word: api.Word{Tokens: []api.Token{{Kind: api.TText, Text: s}}}}
}

func variable(s string) api.Node {
	return api.Node{Kind: api.NWord, Text: "$" + s, Word: api.Word{Tokens: []api.Token{{Kind: api.TVar, Text: s}}}}
}

func node(kind int, s string, args ...api.Node) api.Node {
	return api.Node{Kind: kind, Text: s, Args: args}
}

func TestSame(t *testing.T) {
	a := node(api.NOp, "+", word("1"), word("2"))
	for _, b := range []api.Node{word("+"), node(api.NCall, "+", word("1"), word("2")), node(api.NOp, "-", word("1"), word("2")), node(api.NOp, "+", word("1")), node(api.NOp, "+", word("1"), word("3")), node(api.NOp, "+", word("3"), word("2")), node(api.NOp, "+", word("1"), word("2"), word("3")), {}} {
		if Same(a, b) || Same(b, a) {
			t.Errorf("%s is the same as %s", Show(b), Show(a))
		}
	}
	other := a
	other.Args = []api.Node{{Kind: api.NWord, Text: "1"}, word("2")}
	if !Same(a, other) || !Same(a, a) {
		t.Error("tokens' own texts count")
	}
}

func TestFolded(t *testing.T) {
	for s, want := range map[string]string{
		"1 + 2": "3", "$a + (1 + 2)": "($a + 3)", "1 + 2 + $a": "(3 + $a)", "$a + 1 + 2": "(($a + 1) + 2)", "1 / 0": "(1 / 0)", "max(1, 2)": "2", "max(1, $a)": "max(1, $a)", "nope(1)": "nope(1)", "-5": "-5", "- - 5": "5", "{a} eq \"a\"": "1", "!1": "0", "!x(1)": "(! x(1))",
		"1 && $a": "(1 && $a)", "0 && $a": "0", "$a && 0": "($a && 0)", "1 && 0": "0", "1 && 2": "1", "1 && {x}": "(1 && {x})", "0 && {x}": "0", "{x} && 1": "({x} && 1)", "1 || $a": "1", "0 || $a": "(0 || $a)", "0 || 2": "1", "0 || 0": "0", "$a || 1": "($a || 1)", "0 || {x}": "(0 || {x})", "(0 && $a) || 1": "1",
		"1 ? $a : $b": "$a", "0 ? $a : $b": "$b", "$a ? 1 + 1 : 2 + 2": "($a ? 2 : 4)", "{x} ? 1 : 2": "({x} ? 1 : 2)", "1 ? 1 / 0 : 5": "(1 / 0)", "1 ? 1 + 1 : $a": "2", "[f 1]": "[f 1]", "1 + [f]": "(1 + [f])", "\"a$b\"": "\"a$b\"",
	} {
		n, _, e := Parse(s)
		if e != api.OK {
			t.Fatalf("Parse(%q): %d", s, e)
		}
		before := Show(n)
		f := Fold(n)
		if Show(f) != want || Show(n) != before || !Same(Fold(f), f) {
			t.Errorf("Fold of %s is %s, not %s; twice %s", before, Show(f), want, Show(Fold(f)))
		}
		a, p, ea := Evaluate(n)
		b, q, eb := Evaluate(f)
		if eb == api.OK && (ea == api.OK && (a != b || p != q)) || ea == api.OK && eb != api.OK {
			t.Errorf("%s evaluates to %q, %q, %d; folded to %q, %q, %d", before, a, p, ea, b, q, eb)
		}
	}
	n := node(api.NOp, "+", api.Node{Kind: api.NWord, Text: "$a(1)", Word: api.Word{Tokens: []api.Token{{Kind: api.TVar, Text: "a", HasIndex: true, Index: []api.Token{{Kind: api.TText, Text: "1"}}}}}}, word("2"))
	f := Fold(n)
	f.Args[0].Word.Tokens[0].Index[0].Text, f.Args[1].Word.Tokens[0].Text = "x", "y"
	if n.Args[0].Word.Tokens[0].Index[0].Text != "1" || n.Args[1].Word.Tokens[0].Text != "2" {
		t.Error("Fold gives the memory of its argument out")
	}
}

func TestEvaluated(t *testing.T) {
	for i, c := range []struct {
		n               api.Node
		result, problem string
		e               api.Errno
	}{
		{word("a"), "a", "", 0}, {variable("a"), "", "", api.ErrKind}, {api.Node{}, "", "", api.ErrKind}, {api.Node{Kind: api.NWord, Text: "1"}, "", "", api.ErrKind}, {api.Node{Kind: 9, Text: "+", Args: []api.Node{word("1")}}, "", "", api.ErrKind},
		{node(api.NOp, "+", word("1"), variable("a")), "", "", api.ErrKind}, {node(api.NOp, "+", word("x"), variable("a")), "", "", api.ErrKind}, {node(api.NOp, "/", word("1"), word("0")), "", "zero", 0}, {node(api.NOp, "+", node(api.NOp, "/", word("1"), word("0")), variable("a")), "", "zero", 0},
		{node(api.NOp, "&&", word("0"), variable("a")), "0", "", 0}, {node(api.NOp, "&&", word("1"), variable("a")), "", "", api.ErrKind}, {node(api.NOp, "&&", word("x"), variable("a")), "", "truth: x", 0}, {node(api.NOp, "&&", word("1"), word("x")), "", "truth: x", 0}, {node(api.NOp, "&&", word("1"), word("7")), "1", "", 0}, {node(api.NOp, "||", word("7"), variable("a")), "1", "", 0}, {node(api.NOp, "||", word("0"), word("no")), "0", "", 0}, {node(api.NOp, "||", variable("a"), word("1")), "", "", api.ErrKind},
		{node(api.NOp, "?", word("1"), word("b"), variable("c")), "b", "", 0}, {node(api.NOp, "?", word("0"), variable("b"), word("c")), "c", "", 0}, {node(api.NOp, "?", word("x"), word("b"), word("c")), "", "truth: x", 0}, {node(api.NOp, "?", word("0"), word("b"), variable("c")), "", "", api.ErrKind}, {node(api.NOp, "?", node(api.NOp, "/", word("1"), word("0")), word("b"), word("c")), "", "zero", 0},
		{node(api.NOp, "&&", word("1")), "", "operator: &&", 0}, {node(api.NOp, "&&", word("1"), word("1"), word("1")), "", "operator: &&", 0}, {node(api.NOp, "?", word("1"), word("2")), "", "operator: ?", 0}, {node(api.NCall, "&&", word("1"), word("1")), "", "function: &&", 0}, {node(api.NCall, "abs", word("-1")), "1", "", 0}, {node(api.NCall, "abs"), "", "function: abs", 0}, {node(api.NOp, "+"), "", "operator: +", 0},
	} {
		result, problem, e := Evaluate(c.n)
		if result != c.result || problem != c.problem || e != c.e {
			t.Errorf("case %d, %s: %q, %q, %d, not %q, %q, %d", i, Show(c.n), result, problem, e, c.result, c.problem, c.e)
		}
	}
	n, _, _ := Parse("1 + max($a, [f], {b c}) ? \"d\" : - 2")
	if got := Words(n); !slices.Equal(got, []string{"1", "$a", "[f]", "{b c}", "\"d\"", "2"}) {
		t.Errorf("Words = %q", got)
	}
	if Depth(n) != 4 || Depth(word("a")) != 1 || Depth(api.Node{}) != 1 {
		t.Errorf("Depth = %d", Depth(n))
	}
	if s, ok := Constant(word("a")); s != "a" || !ok {
		t.Error("Constant")
	}
	for _, n := range []api.Node{variable("a"), node(api.NOp, "a"), {}, {Kind: api.NWord, Text: "a"}} {
		if s, ok := Constant(n); s != "" || ok {
			t.Errorf("Constant of %v = %q", n, s)
		}
	}
}
