package expr

import (
	"math/big"
	"math/rand"
	"slices"
	"strings"
	"testing"

	"threadbare/api"
	"threadbare/text"
)

// Expressions are written from trees by the chapter's table, and read back.

// rows are the operators of two operands, from those that bind least.
var rows = [][]string{{"||"}, {"&&"}, {"|"}, {"^"}, {"&"}, {"eq", "ne", "in", "ni"}, {"==", "!="}, {"<", ">", "<=", ">="}, {"<<", ">>"}, {"+", "-"}, {"*", "/", "%"}, {"**"}}

const (
	choiceLevel = 0
	singleLevel = 13
	wordLevel   = 14
)

// someTree returns the full form of an expression, one with no more parentheses than it needs, and how much that binds.
func someTree(r *rand.Rand, deep int) (full, short string, level int) {
	blank := []string{"", " ", "\t", "\n "}[r.Intn(4)]
	in := func(s string, level, least int) string {
		if level < least {
			return "(" + blank + s + ")"
		}
		return s
	}
	switch k := r.Intn(10); {
	case deep == 0 || k < 2:
		w := []string{"1", "0x1f", "007", "$a", "$a(1)", "[f x]", "{b c}", "\"d $e\"", "true", "off", "${x y}"}[r.Intn(11)]
		return w, w, wordLevel
	case k == 2:
		op := []string{"-", "+", "~", "!"}[r.Intn(4)]
		f, s, l := someTree(r, deep-1)
		return "(" + op + " " + f + ")", op + blank + in(s, l, singleLevel), singleLevel
	case k == 3:
		var fulls, shorts []string
		for range 1 + r.Intn(3) {
			f, s, _ := someTree(r, deep-1)
			fulls, shorts = append(fulls, f), append(shorts, s)
		}
		name := []string{"abs", "max", "no", "f_1", "x2"}[r.Intn(5)]
		return name + "(" + strings.Join(fulls, ", ") + ")", name + blank + "(" + blank + strings.Join(shorts, blank+",") + ")", wordLevel
	case k == 4:
		a, sa, la := someTree(r, deep-1)
		b, sb, _ := someTree(r, deep-1)
		c, sc, _ := someTree(r, deep-1)
		return "(" + a + " ? " + b + " : " + c + ")", in(sa, la, 1) + " ?" + blank + sb + " :" + blank + sc, choiceLevel
	default:
		row := r.Intn(len(rows))
		op, level := rows[row][r.Intn(len(rows[row]))], row+1
		a, sa, la := someTree(r, deep-1)
		b, sb, lb := someTree(r, deep-1)
		left, right := level, level+1
		if op == "**" {
			left, right = level+1, level
		}
		return "(" + a + " " + op + " " + b + ")", in(sa, la, left) + " " + op + " " + blank + in(sb, lb, right), level
	}
}

func TestTreesReadBack(t *testing.T) {
	r := rand.New(rand.NewSource(1))
	for range 8000 {
		full, short, _ := someTree(r, 4)
		n, at, e := Parse(short)
		if e != api.OK || at != 0 || Show(n) != full {
			t.Fatalf("Parse(%q): %d, %d, %s, not %s", short, e, at, Show(n), full)
		}
		again, _, e := Parse(Show(n))
		if e != api.OK || !Same(n, again) {
			t.Fatalf("%s is not read as itself", Show(n))
		}
		if cut := short[:len(short)-1]; strings.HasSuffix(short, ")") && !strings.HasSuffix(short, "$a(1)") {
			if _, at, e := Parse(cut); e != api.ErrSyntax || at != len(cut) {
				t.Fatalf("Parse(%q): %d, %d", cut, at, e)
			}
		}
	}
	for i, row := range rows {
		for _, op := range row {
			if Level(op) != i+1 {
				t.Errorf("Level(%s) = %d", op, Level(op))
			}
		}
	}
	all := slices.Concat(rows...)
	slices.Sort(all)
	if !slices.Equal(Operators(), all) {
		t.Errorf("Operators = %q", Operators())
	}
	for _, op := range []string{"", "!", "~", "=", "?", "e", "eqq", "***", "abs"} {
		if Level(op) != 0 {
			t.Errorf("Level(%q) = %d", op, Level(op))
		}
	}
}

var operands = []string{"0", "1", "-1", "2", "-7", "0x10", " 5 ", "100", "100000", "100001", "-100000", "18446744073709551616", "a", "", "b c", "true", "no", "{1 2", strings.Repeat("9", 600), strings.Repeat("9", 601), strings.Repeat("xyz", 20)}

// reckon is what an operator of numbers tells, by the kit's numbers.
func reckon(op string, args []string) (result, problem string) {
	var n []*big.Int
	long := false
	for _, a := range args {
		v, ok := new(big.Int).SetString(strings.TrimSpace(a), 0)
		if !ok {
			return "", "number: " + text.Detail(a)
		}
		long = long || len(new(big.Int).Abs(v).String()) > 600
		n = append(n, v)
	}
	last := "range: " + text.Detail(args[len(args)-1])
	zero, out := big.NewInt(0), new(big.Int)
	if op == "/" || op == "%" {
		if n[1].Sign() == 0 {
			return "", "zero"
		}
		q, m := new(big.Int).QuoRem(n[0], n[1], new(big.Int))
		if m.Sign() != 0 && (m.Sign() < 0) != (n[1].Sign() < 0) {
			q.Sub(q, big.NewInt(1))
			m.Add(m, n[1])
		}
		if out = q; op == "%" {
			out = m
		}
	}
	switch op {
	case "<<", ">>":
		if n[1].Sign() < 0 || n[1].Cmp(big.NewInt(100000)) > 0 {
			return "", last
		}
		if k := uint(n[1].Int64()); op == "<<" {
			out.Lsh(n[0], k)
		} else {
			out.Rsh(n[0], k)
		}
	case "**":
		unit := n[0].IsInt64() && (n[0].Int64() == 1 || n[0].Int64() == -1)
		switch {
		case unit:
			out.Exp(n[0], new(big.Int).And(n[1], big.NewInt(1)), nil)
			long = false
		case n[1].Sign() < 0:
			return "", last
		case n[0].Sign() == 0 && n[1].Sign() > 0:
			long = false
		case n[1].Cmp(big.NewInt(3000)) > 0:
			return "", "long"
		default:
			out.Exp(n[0], n[1], nil)
		}
	case "root":
		if n[0].Sign() < 0 {
			return "", last
		}
		out.Sqrt(n[0])
	case "+":
		if len(n) == 1 {
			n = append(n, zero)
		}
		out.Add(n[0], n[1])
	case "-":
		if len(n) == 1 {
			n = []*big.Int{zero, n[0]}
		}
		out.Sub(n[0], n[1])
	case "*":
		out.Mul(n[0], n[1])
	case "&":
		out.And(n[0], n[1])
	case "|":
		out.Or(n[0], n[1])
	case "^":
		out.Xor(n[0], n[1])
	case "~":
		out.Not(n[0])
	case "abs":
		out.Abs(n[0])
	case "sign":
		out.SetInt64(int64(n[0].Sign()))
	case "gcd":
		out.GCD(nil, nil, new(big.Int).Abs(n[0]), new(big.Int).Abs(n[1]))
	case "min", "max":
		out.Set(n[0])
		for _, v := range n[1:] {
			if v.Cmp(out) == map[string]int{"min": -1, "max": 1}[op] {
				out.Set(v)
			}
		}
	}
	if long || len(new(big.Int).Abs(out).String()) > 600 {
		return "", "long"
	}
	return out.String(), ""
}

func TestOperatorsByTheKit(t *testing.T) {
	for _, a := range operands {
		for _, op := range []string{"-", "+", "~"} {
			result, problem := Apply(op, []string{a})
			if want, wrong := reckon(op, []string{a}); result != want || problem != wrong {
				t.Errorf("%s %.20q = %.20q, %q, not %.20q, %q", op, a, result, problem, want, wrong)
			}
		}
		for _, f := range []string{"abs", "sign", "root", "min", "max"} {
			result, problem := Call(f, []string{a})
			if want, wrong := reckon(f, []string{a}); result != want || problem != wrong {
				t.Errorf("%s(%.20q) = %.20q, %q, not %.20q, %q", f, a, result, problem, want, wrong)
			}
		}
		for _, b := range operands {
			args := []string{a, b}
			for _, op := range []string{"+", "-", "*", "/", "%", "**", "<<", ">>", "&", "|", "^"} {
				result, problem := Apply(op, args)
				if want, wrong := reckon(op, args); result != want || problem != wrong {
					t.Errorf("%.20q %s %.20q = %.20q, %q, not %.20q, %q", a, op, b, result, problem, want, wrong)
				}
			}
			for _, f := range []string{"gcd", "min", "max"} {
				result, problem := Call(f, args)
				if want, wrong := reckon(f, args); result != want || problem != wrong {
					t.Errorf("%s(%.20q, %.20q) = %.20q, %q, not %.20q, %q", f, a, b, result, problem, want, wrong)
				}
			}
			order := strings.Compare(a, b)
			x, ok := new(big.Int).SetString(strings.TrimSpace(a), 0)
			y, ok2 := new(big.Int).SetString(strings.TrimSpace(b), 0)
			if ok && ok2 && max(len(x.String()), len(y.String())) <= 600 {
				order = x.Cmp(y)
			}
			for op, want := range map[string]bool{"<": order < 0, ">": order > 0, "<=": order <= 0, ">=": order >= 0, "==": order == 0, "!=": order != 0, "eq": a == b, "ne": a != b} {
				if result, problem := Apply(op, args); (result == "1") != want || problem != "" || result != "0" && result != "1" {
					t.Errorf("%.20q %s %.20q = %q, %q", a, op, b, result, problem)
				}
			}
		}
	}
	for _, wrong := range [][]string{{"in", "a", "{"}, {"ni", "a", "{ " + strings.Repeat("x", 50)}} {
		if result, problem := Apply(wrong[0], wrong[1:]); result != "" || problem != "list: "+text.Detail(wrong[2]) {
			t.Errorf("%q: %q, %q", wrong, result, problem)
		}
	}
	for op, lists := range map[string]map[string]string{"in": {"a b c": "0", "a {x y} b": "1", "": "0"}, "ni": {"a b c": "1", "a {x y} b": "0", "": "1"}} {
		for l, want := range lists {
			if result, problem := Apply(op, []string{"x y", l}); result != want || problem != "" {
				t.Errorf("{x y} %s %q = %q, %q", op, l, result, problem)
			}
		}
	}
}
