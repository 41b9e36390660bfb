package expr

import (
	"slices"
	"strings"
	"testing"

	"threadbare/api"
)

func TestParse(t *testing.T) {
	for s, want := range map[string]string{
		"1 + 2 * 3": "(1 + (2 * 3))", "1-2-3": "((1 - 2) - 3)", "2 ** 3 ** 2": "(2 ** (3 ** 2))", "- 2 ** 2": "((- 2) ** 2)", "2 ** -1": "(2 ** (- 1))", "- - 2": "(- (- 2))", "!!$x": "(! (! $x))", "a(1)||b(2)&&3|4^5&6 eq 7==8<9<<1+2*3**4": "(a(1) || (b(2) && (3 | (4 ^ (5 & (6 eq (7 == (8 < (9 << (1 + (2 * (3 ** 4))))))))))))",
		"1?2:3?4:5": "(1 ? 2 : (3 ? 4 : 5))", "1?2?3:4:5": "(1 ? (2 ? 3 : 4) : 5)", "((1))": "1", " true && on ": "(true && on)", "max(1, $a(b) ,[f x])": "max(1, $a(b), [f x])", "abs (1)": "abs(1)", "\"a b\"eq{c}": "(\"a b\" eq {c})", "1in{1 2}": "1in", "0x1F": "0x1F", "1 ni \"\"": "(1 ni \"\")", "1<=2>=3": "((1 <= 2) >= 3)", "1>>2": "(1 >> 2)", "yes!=no": "(yes != no)", "~1%2/3": "(((~ 1) % 2) / 3)", "true(1)": "true(1)", "true (1)": "true(1)", "no (1)": "no(1)", "yes\t( 1 , on )": "yes(1, on)", "1 + off \n(2)": "(1 + off(2))", "!on  (no )": "(! on(no))", "false ? no : (yes)": "(false ? no : yes)", "no eq (off)": "(no eq off)", "(no )": "no", "no ": "no", "${a b}": "${a b}", "1\n+\t2": "(1 + 2)", "[f \"]\"]": "[f \"]\"]",
	} {
		n, at, e := Parse(s)
		if want == "1in" {
			if e != api.ErrSyntax || at != 0 {
				t.Errorf("Parse(%q): %d, %d", s, at, e)
			}
			continue
		}
		if e != api.OK || at != 0 || Show(n) != want {
			t.Errorf("Parse(%q) = %s, %d, %d", s, Show(n), at, e)
		}
		again, _, e := Parse(Show(n))
		if e != api.OK || !Same(n, again) {
			t.Errorf("Parse(Show) of %q is %s", s, Show(again))
		}
	}
	for s, at := range map[string]int{"": 0, "  ": 2, "1 +": 3, "1 + )": 4, "(1": 2, "1)": 1, "f(1": 3, "f()": 2, "f(1,)": 4, "1 = 2": 2, "1 !2": 2, "1 eqx 2": 2, "foo": 0, "1 + foo": 4, "truex": 0, "1_0": 1, "12ab": 0, "1 + 0x": 4, "1.5": 1, "$": 0, "1 + $(": 4, "\"a": 0, "1+{a": 2, "[f": 0, "$a(": 0, "1 ? 2": 5, "1 ? 2 3": 6, "1 2": 2, "*1": 0, "1 ; 2": 2, "[f {a}b]": 0, strings.Repeat("9", 601): 0} {
		n, got, e := Parse(s)
		if got != at || e != api.ErrSyntax || n.Kind != 0 {
			t.Errorf("Parse(%q): %d, %d", s, got, e)
		}
	}
	hundred := strings.Repeat("1+", 99) + "1"
	if n, _, e := Parse(hundred); e != api.OK || Depth(n) != 100 {
		t.Errorf("a hundred levels: %d", e)
	}
	for _, s := range []string{"1+" + hundred, strings.Repeat("-", 100) + "1", "1 + \"" + strings.Repeat("[", 101)} {
		if _, at, e := Parse(s); at != 0 || e != api.ErrLimit {
			t.Errorf("Parse(%.10q..): %d, %d", s, at, e)
		}
	}
	if _, at, e := Parse("1+" + hundred + ")"); e != api.ErrSyntax || at != len(hundred)+2 {
		t.Errorf("deep and wrong: %d, %d", at, e)
	}
	if _, _, e := Parse(strings.Repeat("(", 300) + "1" + strings.Repeat(")", 300)); e != api.OK {
		t.Error("parentheses make nodes")
	}
}

func TestApply(t *testing.T) {
	long := "1" + strings.Repeat("0", 600)
	fifty := strings.Repeat("x", 50)
	for _, c := range []struct{ op, a, b, result, problem string }{
		{"+", "1", " 0x10 ", "17", ""}, {"-", "1", "3", "-2", ""}, {"*", "-2", "3", "-6", ""}, {"/", "-7", "2", "-4", ""}, {"%", "-7", "2", "1", ""}, {"**", "2", "10", "1024", ""}, {"<<", "1", "4", "16", ""}, {">>", "-5", "1", "-3", ""}, {"&", "6", "3", "2", ""}, {"|", "6", "3", "7", ""}, {"^", "6", "3", "5", ""},
		{"<", "9", "10", "1", ""}, {"<", "a", "b", "1", ""}, {"<", "9", "1x", "0", ""}, {"==", "10", "0xA", "1", ""}, {"!=", "10", "0xA", "0", ""}, {"eq", "10", "0xA", "0", ""}, {"ne", "a", "a", "0", ""}, {"in", "a b", "x {a b}", "1", ""}, {"ni", "a", "x {a b}", "1", ""}, {">=", "2", "2", "1", ""}, {"<=", "3", "2", "0", ""}, {">", "3", "2", "1", ""},
		{"+", "x", "y", "", "number: x"}, {"+", "1", fifty, "", "number: " + fifty[:40]}, {"/", "7", "0", "", "zero"}, {"%", "x", "0", "", "number: x"}, {"**", "2", "-1", "", "range: -1"}, {"<<", "1", "100001", "", "range: 100001"}, {">>", "1", "-1", "", "range: -1"}, {"<<", "x", "-1", "", "number: x"}, {"<<", "1", long, "", "range: " + long[:40]}, {"+", long, "1", "", "long"}, {"**", "10", "600", "", "long"}, {"<<", "1", "100000", "", "long"}, {"<<", long, "-1", "", "range: -1"},
		{"in", "a", "{", "", "list: {"}, {"ni", "a", strings.Repeat("a ", 10001), "", "list: " + strings.Repeat("a ", 20)}, {"&&", "1", "1", "", "operator: &&"}, {"?", "1", "1", "", "operator: ?"}, {"~", "1", "1", "", "operator: ~"}, {fifty, "1", "1", "", "operator: " + fifty[:40]}, {"==", long, "1", "0", ""}, {"<", long, "2", "1", ""},
	} {
		if r, p := Apply(c.op, []string{c.a, c.b}); r != c.result || p != c.problem {
			t.Errorf("Apply(%s, %.20q, %.20q) = %q, %q", c.op, c.a, c.b, r, p)
		}
	}
	for _, c := range []struct{ op, a, result, problem string }{{"-", "0x5", "-5", ""}, {"+", "007", "7", ""}, {"~", "0", "-1", ""}, {"!", "no", "1", ""}, {"!", "5", "0", ""}, {"!", "x", "", "truth: x"}, {"-", "x", "", "number: x"}, {"-", long, "", "long"}, {"!", long, "", "truth: " + long[:40]}, {"*", "1", "", "operator: *"}} {
		if r, p := Apply(c.op, []string{c.a}); r != c.result || p != c.problem {
			t.Errorf("Apply(%s, %.20q) = %q, %q", c.op, c.a, r, p)
		}
	}
	if _, p := Apply("+", nil); p != "operator: +" {
		t.Errorf("Apply of nothing: %q", p)
	}
	for _, c := range []struct {
		name, args, result, problem string
	}{{"abs", "-5", "5", ""}, {"sign", "-5", "-1", ""}, {"root", "17", "4", ""}, {"root", "-1", "", "range: -1"}, {"not", "off", "1", ""}, {"bool", "0x0", "0", ""}, {"bool", "x", "", "truth: x"}, {"min", "3 0x1 2", "1", ""}, {"max", "3 10 9", "10", ""}, {"max", "3 x y", "", "number: x"}, {"max", long + " x", "", "number: x"}, {"max", long + " 1", "", "long"}, {"gcd", "12 18", "6", ""}, {"pow", "2 3", "8", ""}, {"pow", "2 -3", "", "range: -3"}, {"pow", "2", "", "function: pow"}, {"abs", "1 2", "", "function: abs"}, {"min", "", "", "function: min"}, {"foo", "1", "", "function: foo"}} {
		if r, p := Call(c.name, strings.Fields(c.args)); r != c.result || p != c.problem {
			t.Errorf("Call(%s, %.20q) = %q, %q", c.name, c.args, r, p)
		}
	}
	if is, p := Truth(" 1 "); !is || p != "" {
		t.Error("Truth")
	}
	if is, p := Truth("TRUE"); is || p != "truth: TRUE" {
		t.Error("Truth of none")
	}
}

func TestEvaluate(t *testing.T) {
	for s, want := range map[string]struct {
		result, problem string
		e               api.Errno
	}{
		"1 + 2 * 3": {"7", "", 0}, "2 ** 3 ** 2": {"512", "", 0}, "\"a\" < \"b\"": {"1", "", 0}, "{a b}": {"a b", "", 0}, "1 ? 2 : $x": {"2", "", 0}, "0 ? $x : 3": {"3", "", 0}, "0 && $x": {"0", "", 0}, "1 || $x": {"1", "", 0}, "yes && 5": {"1", "", 0}, "0 || off": {"0", "", 0}, "$x": {"", "", api.ErrKind}, "1 && $x": {"", "", api.ErrKind}, "$x && 0": {"", "", api.ErrKind}, "1 + [f]": {"", "", api.ErrKind},
		"x(1)": {"", "function: x", 0}, "1 / 0": {"", "zero", 0}, "(1 / 0) + $x": {"", "zero", 0}, "$x + (1 / 0)": {"", "", api.ErrKind}, "{x} && 1": {"", "truth: x", 0}, "1 && {x}": {"", "truth: x", 0}, "{x} ? 1 : 2": {"", "truth: x", 0}, "max(1, 2 + 3)": {"5", "", 0}, "abs(1/0)": {"", "zero", 0}, "true": {"true", "", 0}, "0x10": {"0x10", "", 0},
	} {
		n, _, e := Parse(s)
		if e != api.OK {
			t.Fatalf("Parse(%q): %d", s, e)
		}
		r, p, e := Evaluate(n)
		if r != want.result || p != want.problem || e != want.e {
			t.Errorf("Evaluate(%q) = %q, %q, %d", s, r, p, e)
		}
		f := Fold(n)
		if fr, fp, fe := Evaluate(f); want.e == api.OK && (fr != r || fp != p || fe != e) {
			t.Errorf("%q folded is %s: %q, %q", s, Show(f), fr, fp)
		}
		if again := Fold(f); !Same(f, again) {
			t.Errorf("%q folded twice is %s", s, Show(again))
		}
	}
	for s, want := range map[string]string{"1 + 2 + $x": "(3 + $x)", "$x + 1 + 2": "(($x + 1) + 2)", "0 && $x": "0", "1 && $x": "(1 && $x)", "$x && 0": "($x && 0)", "1 ? $x : (2 + 3)": "$x", "{q} ? 1 : (2 + 3)": "({q} ? 1 : 5)", "$c ? (1 + 1) : 2": "($c ? 2 : 2)", "1 / 0": "(1 / 0)", "max($x, 1 + 1)": "max($x, 2)", "{x} && 1": "({x} && 1)", "2 - 5": "-3", "1 || (1/0)": "1", "0 || (1/0)": "(0 || (1 / 0))"} {
		n, _, _ := Parse(s)
		if got := Show(Fold(n)); got != want {
			t.Errorf("Fold(%q) = %s", s, got)
		}
	}
	for _, n := range []api.Node{{}, {Kind: api.NOp, Text: "+"}, {Kind: 9, Text: "x"}, {Kind: api.NOp, Text: "?", Args: []api.Node{{}}}, {Kind: api.NCall}} {
		Evaluate(n)
		Fold(n)
		Show(n)
		Words(n)
	}
	n, _, _ := Parse("$a + f(1, {b c}) ? \"x\" : [y]")
	if got := Words(n); !slices.Equal(got, []string{"$a", "1", "{b c}", "\"x\"", "[y]"}) || Depth(n) != 4 {
		t.Errorf("Words = %q, Depth = %d", got, Depth(n))
	}
	if s, ok := Constant(n); ok || s != "" {
		t.Error("Constant of an operator")
	}
	v, _, _ := Parse("\"a\\tb\"")
	if s, ok := Constant(v); !ok || s != "a\tb" {
		t.Error("Constant")
	}
}

func TestOperators(t *testing.T) {
	want := strings.Fields("!= % & && * ** + - / < << <= == > >= >> ^ eq in ne ni | ||")
	if got := Operators(); !slices.Equal(got, want) {
		t.Errorf("Operators = %q", got)
	}
	for _, op := range want {
		n := Level(op)
		if n < 1 || n > 12 {
			t.Errorf("Level(%s) = %d", op, n)
		}
		for _, other := range want {
			tree, _, e := Parse("1 " + op + " 2 " + other + " 3")
			right := Level(other) > n || op == "**" && other == "**"
			if e != api.OK || (len(tree.Args[1].Args) == 2) != right {
				t.Errorf("1 %s 2 %s 3 is %s", op, other, Show(tree))
			}
		}
	}
	if Level("!") != 0 || Level("?") != 0 || Level("||") != 1 || Level("**") != 12 {
		t.Error("Level")
	}
}
