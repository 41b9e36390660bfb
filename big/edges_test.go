package big

import (
	"math/big"
	"strings"
	"testing"

	"threadbare/api"
)

func TestWhiteAndDigits(t *testing.T) {
	for c := range 256 {
		s := string([]byte{byte(c)})
		white := strings.Contains("\t\n\v\f\r ", s)
		if c > 127 {
			white = false
		}
		for _, n := range []string{s + "7", "7" + s, s + "-7" + s} {
			want := white
			if c >= '0' && c <= '9' || strings.Contains("+-", s) && n == s+"7" {
				continue
			}
			if Valid(n) != want {
				t.Errorf("Valid(%q) = %t", n, !want)
			}
		}
		for base := 2; base <= 36; base++ {
			v, ok := new(big.Int).SetString(s, base)
			got, e := Read(s, base)
			if c > 127 {
				ok = false
			}
			if ok != (e == api.OK) || ok && got != v.String() || !ok && (got != "" || e != api.ErrSyntax) {
				t.Errorf("Read(%q, %d) = %q, %d", s, base, got, e)
			}
		}
	}
	for _, s := range []string{"-0x", "0b2", "0o9", "0xG", "0B1", "0O7", "0X1", "0x-1", "-+1", "+-1", "+ 1", "0x 1", "x1", "0b", "0o", "-", " ", "1-"} {
		if _, e := Canonical(s); e != api.ErrSyntax {
			t.Errorf("Canonical(%q): %d", s, e)
		}
	}
}

// powers are the numbers around powers of two and of ten, where words and digits begin.
func powers() []*big.Int {
	var out []*big.Int
	for _, base := range []int64{2, 10} {
		for e := int64(0); e < 200; e += 1 + e/40 {
			p := new(big.Int).Exp(big.NewInt(base), big.NewInt(e), nil)
			for d := int64(-1); d <= 1; d++ {
				out = append(out, new(big.Int).Add(p, big.NewInt(d)))
			}
		}
	}
	return out
}

func TestAroundPowers(t *testing.T) {
	all := powers()
	for i, a := range all {
		for _, sign := range []int64{1, -1} {
			x := new(big.Int).Mul(a, big.NewInt(sign))
			for k := 1; k < len(all); k *= 2 {
				y := all[(i+k)%len(all)]
				q, r, e := Div(x.String(), y.String())
				if y.Sign() == 0 {
					if e != api.ErrZero {
						t.Errorf("Div by nothing: %d", e)
					}
					continue
				}
				m := new(big.Int).Mod(x, y) // y is above 0
				d := new(big.Int).Div(new(big.Int).Sub(x, m), y)
				if q != d.String() || r != m.String() || e != api.OK {
					t.Fatalf("Div(%s, %s) = %s, %s", x, y, q, r)
				}
				below := new(big.Int).Neg(y)
				q, r, _ = Div(x.String(), below.String())
				back := new(big.Int).Mul(mustInt(q), below)
				rest := mustInt(r)
				if back.Add(back, rest).Cmp(x) != 0 || rest.Sign() > 0 || rest.Cmp(below) <= 0 {
					t.Fatalf("Div(%s, %s) = %s, %s", x, below, q, r)
				}
			}
			for _, n := range []int{0, 1, 31, 32, 33, 63, 64, 65, 700} {
				up, _ := Shift(x.String(), n)
				down, _ := Shift(x.String(), -n)
				if up != new(big.Int).Lsh(x, uint(n)).String() || down != new(big.Int).Rsh(x, uint(n)).String() {
					t.Fatalf("Shift(%s, %d) = %s, back %s", x, n, up, down)
				}
			}
			for _, base := range []int{2, 3, 8, 10, 16, 35, 36} {
				text, _ := Base(x.String(), base)
				if back, e := Read("-000"+strings.TrimPrefix(text, "-"), base); text != x.Text(base) || back != new(big.Int).Neg(new(big.Int).Abs(x)).String() || e != api.OK {
					t.Fatalf("Base(%s, %d) = %s, back %s", x, base, text, back)
				}
			}
		}
		square := new(big.Int).Mul(a, a)
		for d := int64(-1); d <= 1; d++ {
			n := new(big.Int).Add(square, big.NewInt(d))
			if n.Sign() < 0 {
				continue
			}
			if got, e := Root(n.String()); got != new(big.Int).Sqrt(n).String() || e != api.OK {
				t.Fatalf("Root(%s) = %s", n, got)
			}
		}
	}
}

func mustInt(s string) *big.Int {
	n, _ := new(big.Int).SetString(s, 10)
	return n
}

func TestPowers(t *testing.T) {
	for a := int64(-12); a <= 12; a++ {
		for b := int64(0); b < 70; b++ {
			want := new(big.Int).Exp(big.NewInt(a), big.NewInt(b), nil).String()
			if got, e := Pow(big.NewInt(a).String(), big.NewInt(b).String()); got != want || e != api.OK {
				t.Fatalf("Pow(%d, %d) = %s, %d", a, b, got, e)
			}
		}
	}
	// the greatest exponents that fit into MaxDigits digits
	for _, c := range []struct {
		base string
		most int64
	}{{"2", 1993}, {"-2", 1993}, {"3", 1257}, {"10", 599}, {"99", 300}} {
		want := new(big.Int).Exp(mustInt(c.base), big.NewInt(c.most), nil).String()
		if got, e := Pow(c.base, big.NewInt(c.most).String()); got != want || e != api.OK {
			t.Errorf("Pow(%s, %d) = %.20s, %d", c.base, c.most, got, e)
		}
		for _, more := range []string{big.NewInt(c.most + 1).String(), "4294967296", "18446744073709551617", nines} {
			if got, e := Pow(c.base, more); got != "" || e != api.ErrLimit {
				t.Errorf("Pow(%s, %.20s) = %.20s, %d", c.base, more, got, e)
			}
		}
	}
}

func TestErrorsTellNothing(t *testing.T) {
	for i, c := range []struct {
		do   func() (string, api.Errno)
		want api.Errno
	}{
		{func() (string, api.Errno) { return Base("5", 1) }, 7}, {func() (string, api.Errno) { return Base("5", 37) }, 7}, {func() (string, api.Errno) { return Base("5", 2) }, 0}, {func() (string, api.Errno) { return Base("5", 36) }, 0}, {func() (string, api.Errno) { return Read("1", 1) }, 7}, {func() (string, api.Errno) { return Read("1", 37) }, 7}, {func() (string, api.Errno) { return Read("z", 36) }, 0},
		{func() (string, api.Errno) { return Shift("1", 1992) }, 0}, {func() (string, api.Errno) { return Shift("1", 1993) }, 0}, {func() (string, api.Errno) { return Shift("1", 1994) }, 4}, {func() (string, api.Errno) { return Shift(nines, 0) }, 0}, {func() (string, api.Errno) { return Shift(nines, 1) }, 4}, {func() (string, api.Errno) { return Shift("1", 100001) }, 7}, {func() (string, api.Errno) { return Shift("-1", -100001) }, 7},
		{func() (string, api.Errno) { return Add("1", long) }, 4}, {func() (string, api.Errno) { return Add(long, "1") }, 4}, {func() (string, api.Errno) { return Add("x", long) }, 2}, {func() (string, api.Errno) { return Gcd(long, "1") }, 4}, {func() (string, api.Errno) { return And("1", long) }, 4}, {func() (string, api.Errno) { return Neg(long) }, 4}, {func() (string, api.Errno) { return Neg("-" + nines) }, 0}, {func() (string, api.Errno) { return Sub("-"+nines, "1") }, 4}, {func() (string, api.Errno) { return Mul(nines, "1") }, 0}, {func() (string, api.Errno) { return Mul(nines, "10") }, 4},
		{func() (string, api.Errno) { q, r, e := Div(nines, "1"); return q + r, e }, 0}, {func() (string, api.Errno) { q, r, e := Div("-"+nines, "-1"); return q + r, e }, 0}, {func() (string, api.Errno) { q, r, e := Div("1", "-"+nines); return q + r, e }, 0}, {func() (string, api.Errno) { q, r, e := Div("-"+nines, "0"); return q + r, e }, 10}, {func() (string, api.Errno) { q, r, e := Div("1", "x"); return q + r, e }, 2}, {func() (string, api.Errno) { q, r, e := Div("0", long); return q + r, e }, 4},
		{func() (string, api.Errno) { n, e := Compare("1", long); return Of(n)[1:], e }, 4}, {func() (string, api.Errno) { n, e := Sign("x"); return Of(n)[1:], e }, 2}, {func() (string, api.Errno) { n, e := Int("-" + long); return Of(n)[1:], e }, 7}, {func() (string, api.Errno) { n, e := Int("18446744073709551616"); return Of(n)[1:], e }, 7}, {func() (string, api.Errno) { n, e := Int("-9223372036854775809"); return Of(n)[1:], e }, 7},
	} {
		if s, e := c.do(); e != c.want || e != api.OK && s != "" {
			t.Errorf("case %d: %.20q, %d, not %d", i, s, e, c.want)
		}
	}
	for _, n := range []int{1<<63 - 1, -1 << 63, 1 << 32, -1 << 32, 1<<32 - 1, 1 << 31, 0, -1} {
		if back, e := Int(Of(n)); back != n || e != api.OK || Of(n) != big.NewInt(int64(n)).String() {
			t.Errorf("Int(Of(%d)) = %d, %d", n, back, e)
		}
	}
}
