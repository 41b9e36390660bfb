package big

import (
	"math/big"
	"math/rand"
	"strings"
	"testing"

	"threadbare/api"
)

var nines = strings.Repeat("9", 600)
var long = "1" + strings.Repeat("0", 600)

func check(t *testing.T, what, got string, e api.Errno, want string, code api.Errno) {
	t.Helper()
	if got != want || e != code {
		t.Errorf("%s: %q, %d, not %q, %d", what, got, e, want, code)
	}
}

func TestForms(t *testing.T) {
	for s, want := range map[string]string{"007": "7", "+0x1F": "31", " \t-0b101\n": "-5", "-0o17": "-15", "-0": "0", "0xaB": "171", "00": "0", "0": "0", nines: nines, "000" + nines: nines, "0x" + strings.Repeat("0", 5000) + "1": "1"} {
		got, e := Canonical(s)
		check(t, "Canonical", got, e, want, api.OK)
		if !Valid(s) {
			t.Errorf("Valid(%q)", s)
		}
	}
	for _, s := range []string{"", " ", "0x", "0X1", "- 5", "1_000", "1.0", "1 2", "--1", "+", "0b2", "0o8", "08x", "a", "0xg", "1\x00"} {
		got, e := Canonical(s)
		check(t, "Canonical of "+s, got, e, "", api.ErrSyntax)
		if Valid(s) {
			t.Errorf("Valid(%q)", s)
		}
	}
	for _, s := range []string{long, "-" + long, strings.Repeat("9", 9000), "0x" + strings.Repeat("f", 500)} {
		got, e := Canonical(s)
		check(t, "Canonical of a long one", got, e, "", api.ErrLimit)
		if Valid(s) {
			t.Error("Valid of a long one")
		}
	}
}

func random(r *rand.Rand) *big.Int {
	n := new(big.Int).Rand(r, new(big.Int).Lsh(big.NewInt(1), uint(r.Intn(900)+1)))
	if r.Intn(3) == 0 { // words that are full or empty
		n.Lsh(n, 64).Sub(n, big.NewInt(int64(r.Intn(3))))
	}
	if r.Intn(2) == 0 {
		n.Neg(n)
	}
	return n
}

func TestAgainstAnother(t *testing.T) {
	r := rand.New(rand.NewSource(1))
	for range 3000 {
		a, b := random(r), random(r)
		x, y := a.String(), b.String()
		for name, c := range map[string]struct {
			do   func(a, b string) (string, api.Errno)
			want *big.Int
		}{
			"Add": {Add, new(big.Int).Add(a, b)}, "Sub": {Sub, new(big.Int).Sub(a, b)}, "Mul": {Mul, new(big.Int).Mul(a, b)}, "And": {And, new(big.Int).And(a, b)}, "Or": {Or, new(big.Int).Or(a, b)}, "Xor": {Xor, new(big.Int).Xor(a, b)},
			"Gcd": {Gcd, new(big.Int).GCD(nil, nil, new(big.Int).Abs(a), new(big.Int).Abs(b))},
			"Not": {func(a, b string) (string, api.Errno) { return Not(a) }, new(big.Int).Not(a)}, "Neg": {func(a, b string) (string, api.Errno) { return Neg(a) }, new(big.Int).Neg(a)}, "Abs": {func(a, b string) (string, api.Errno) { return Abs(a) }, new(big.Int).Abs(a)},
		} {
			got, e := c.do(x, y)
			check(t, name+" "+x+" "+y, got, e, c.want.String(), api.OK)
		}
		if n, _ := Compare(x, y); n != a.Cmp(b) {
			t.Errorf("Compare(%s, %s) = %d", x, y, n)
		}
		if n, _ := Sign(x); n != a.Sign() {
			t.Errorf("Sign(%s)", x)
		}
		n := r.Intn(200)
		up, e := Shift(x, n)
		check(t, "Shift", up, e, new(big.Int).Lsh(a, uint(n)).String(), 0)
		down, e := Shift(x, -n)
		check(t, "Shift down", down, e, new(big.Int).Rsh(a, uint(n)).String(), 0)
		root, e := Root(new(big.Int).Abs(a).String())
		check(t, "Root", root, e, new(big.Int).Sqrt(new(big.Int).Abs(a)).String(), 0)
		base := 2 + r.Intn(35)
		text, e := Base(x, base)
		check(t, "Base", text, e, a.Text(base), 0)
		back, e := Read(strings.ToUpper(text), base)
		check(t, "Read", back, e, x, 0)
		if b.Sign() != 0 {
			q, rest, e := Div(x, y)
			want, m := new(big.Int), new(big.Int)
			want.DivMod(a, new(big.Int).Abs(b), m) // Euclid's: the sign is put right here
			if b.Sign() < 0 {
				want.Neg(want)
				if m.Sign() != 0 {
					want.Sub(want, big.NewInt(1))
					m.Add(m, b)
				}
			}
			check(t, "Div "+x+" "+y, q+" "+rest, e, want.String()+" "+m.String(), 0)
		}
		small := r.Intn(6)
		p, e := Pow(Of(small-3), Of(r.Intn(40)))
		if e != api.OK || !Valid(p) {
			t.Errorf("Pow: %q, %d", p, e)
		}
		k := int(r.Uint64())
		if back, e := Int(Of(k)); back != k || e != api.OK {
			t.Errorf("Int(Of(%d)) = %d, %d", k, back, e)
		}
	}
}

func TestExamplesAndErrors(t *testing.T) {
	q, r, e := Div("-7", "2")
	check(t, "Div", q+" "+r, e, "-4 1", 0)
	q, r, e = Div("7", "-2")
	check(t, "Div", q+" "+r, e, "-4 -1", 0)
	type result struct {
		s string
		e api.Errno
	}
	pair := func(s string, e api.Errno) result { return result{s, e} }
	div := func(a, b string) result { q, r, e := Div(a, b); return result{q + r, e} }
	for i, c := range []struct {
		got  result
		want string
		e    api.Errno
	}{
		{pair(And("-4", "7")), "4", 0}, {pair(Base("255", 16)), "ff", 0}, {pair(Add(nines, "1")), "", api.ErrLimit}, {pair(Add(nines, "-1")), nines[:599] + "8", 0}, {pair(Add(long, "x")), "", api.ErrSyntax}, {pair(Mul(nines, nines)), "", api.ErrLimit},
		{div(long, "0"), "", api.ErrZero}, {div("1", long), "", api.ErrLimit}, {div("x", "0"), "", api.ErrSyntax}, {div("0", "-5"), "00", 0},
		{pair(Pow("0", "0")), "1", 0}, {pair(Pow("0", "-1")), "", api.ErrRange}, {pair(Pow("0", "-"+long)), "", api.ErrRange}, {pair(Pow("2", "-"+long)), "", api.ErrRange}, {pair(Pow("2", long)), "", api.ErrLimit}, {pair(Pow("0", long)), "0", 0}, {pair(Pow("1", "-"+long)), "1", 0},
		{pair(Pow("-1", long)), "1", 0}, {pair(Pow("-1", "-"+long[:600]+"1")), "-1", 0}, {pair(Pow("-1", "-3")), "-1", 0}, {pair(Pow(long, "-1")), "", api.ErrRange}, {pair(Pow(long, "0")), "", api.ErrLimit}, {pair(Pow("10", "599")), "1" + strings.Repeat("0", 599), 0}, {pair(Pow("10", "600")), "", api.ErrLimit}, {pair(Pow("2", "1000000000000")), "", api.ErrLimit}, {pair(Pow("-2", "3")), "-8", 0}, {pair(Pow("x", "1")), "", api.ErrSyntax},
		{pair(Shift("1", 100000)), "", api.ErrLimit}, {pair(Shift("0", 100000)), "0", 0}, {pair(Shift("-1", -100000)), "-1", 0}, {pair(Shift("5", -100000)), "0", 0}, {pair(Shift(long, 100001)), "", api.ErrRange}, {pair(Shift("1", -100001)), "", api.ErrRange}, {pair(Shift(long, -5)), "", api.ErrLimit}, {pair(Shift("x", 100001)), "", api.ErrSyntax}, {pair(Shift("-5", -1)), "-3", 0},
		{pair(Root("-1")), "", api.ErrRange}, {pair(Root("-" + long)), "", api.ErrRange}, {pair(Root(long)), "", api.ErrLimit}, {pair(Root("0")), "0", 0}, {pair(Root("99")), "9", 0},
		{pair(Gcd("0", "0")), "0", 0}, {pair(Gcd("-12", "18")), "6", 0}, {pair(Base("x", 1)), "", api.ErrSyntax}, {pair(Base(long, 37)), "", api.ErrRange}, {pair(Base(long, 2)), "", api.ErrLimit}, {pair(Base("-255", 36)), "-73", 0},
		{pair(Read("?", 1)), "", api.ErrRange}, {pair(Read("", 10)), "", api.ErrSyntax}, {pair(Read("-", 10)), "", api.ErrSyntax}, {pair(Read(" 1", 10)), "", api.ErrSyntax}, {pair(Read("+1", 10)), "", api.ErrSyntax}, {pair(Read("2", 2)), "", api.ErrSyntax}, {pair(Read("-00Zz", 36)), "-1295", 0}, {pair(Read("-0", 2)), "0", 0}, {pair(Read(long, 10)), "", api.ErrLimit}, {pair(Read(strings.Repeat("1", 3000), 2)), "", api.ErrLimit},
		{pair(Not("0")), "-1", 0}, {pair(Not(nines)), "", api.ErrLimit}, {pair(Of(-1<<63), 0), "-9223372036854775808", 0}, {pair(Of(0), 0), "0", 0}, {pair(Or("-1", "0")), "-1", 0}, {pair(Xor("-1", "1")), "-2", 0},
	} {
		check(t, "case "+Of(i), c.got.s, c.got.e, c.want, c.e)
	}
	for s, want := range map[string]struct {
		n int
		e api.Errno
	}{"9223372036854775807": {1<<63 - 1, 0}, "9223372036854775808": {0, api.ErrRange}, "-9223372036854775808": {-1 << 63, 0}, "-9223372036854775809": {0, api.ErrRange}, long: {0, api.ErrRange}, "x": {0, api.ErrSyntax}, "0x10": {16, 0}, strings.Repeat("9", 40): {0, api.ErrRange}} {
		if n, e := Int(s); n != want.n || e != want.e {
			t.Errorf("Int(%q) = %d, %d", s, n, e)
		}
	}
	if _, e := Compare("x", long); e != api.ErrSyntax {
		t.Error("Compare of no number")
	}
	if n, e := Compare(long, "1"); n != 0 || e != api.ErrLimit {
		t.Error("Compare of a long number")
	}
	if _, e := Sign(long); e != api.ErrLimit {
		t.Error("Sign of a long number")
	}
}
