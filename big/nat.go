package big

import (
	"iter"
	"math/bits"

	"threadbare/api"
)

// nat is a whole number of 0 or more: words of 32 bits, the lowest first, the last one not 0.
type nat []uint32

func cut(a nat) nat {
	for len(a) > 0 && a[len(a)-1] == 0 {
		a = a[:len(a)-1]
	}
	return a
}

// digitPairs yields the words of two numbers side by side, the lowest first, as many as the longer one has.
func digitPairs(a, b nat) iter.Seq2[uint32, uint32] {
	return func(yield func(uint32, uint32) bool) {
		for i := range max(len(a), len(b)) {
			var x, y uint32
			if i < len(a) {
				x = a[i]
			}
			if i < len(b) {
				y = b[i]
			}
			if !yield(x, y) {
				return
			}
		}
	}
}

func (a nat) compare(b nat) int {
	order := 0
	for x, y := range digitPairs(a, b) {
		if x > y {
			order = 1
		} else if x < y {
			order = -1
		}
	}
	return order
}

func (a nat) plus(b nat) nat {
	out := make(nat, 0, max(len(a), len(b))+1)
	carry := uint32(0)
	for x, y := range digitPairs(a, b) {
		var sum uint32
		sum, carry = bits.Add32(x, y, carry)
		out = append(out, sum)
	}
	return cut(append(out, carry))
}

// minus is a - b for b at most a.
func (a nat) minus(b nat) nat {
	out := make(nat, 0, len(a))
	borrow := uint32(0)
	for x, y := range digitPairs(a, b) {
		var rest uint32
		rest, borrow = bits.Sub32(x, y, borrow)
		out = append(out, rest)
	}
	return cut(out)
}

func (a nat) times(b nat) nat {
	out := make(nat, len(a)+len(b))
	for i, x := range a {
		carry := uint64(0)
		for j, y := range b {
			t := uint64(x)*uint64(y) + uint64(out[i+j]) + carry
			out[i+j], carry = uint32(t), t>>32
		}
		out[i+len(b)] = uint32(carry)
	}
	return cut(out)
}

// timesPlus is a * m + n, in place where there is room.
func (a nat) timesPlus(m, n uint32) nat {
	carry := uint64(n)
	for i, x := range a {
		t := uint64(x)*uint64(m) + carry
		a[i], carry = uint32(t), t>>32
	}
	if carry > 0 {
		a = append(a, uint32(carry))
	}
	return a
}

// byWord divides by one word.
func (a nat) byWord(m uint32) (nat, uint32) {
	out := make(nat, len(a))
	rest := uint64(0)
	for i := len(a) - 1; i >= 0; i-- {
		t := rest<<32 | uint64(a[i])
		out[i], rest = uint32(t/uint64(m)), t%uint64(m)
	}
	return cut(out), uint32(rest)
}

// by divides by a number that is not 0, as Knuth tells (algorithm D).
func (a nat) by(b nat) (q, r nat) {
	if a.compare(b) < 0 {
		return nil, append(nat(nil), a...)
	}
	if len(b) == 1 {
		q, rest := a.byWord(b[0])
		return q, cut(nat{rest})
	}
	shift := uint(bits.LeadingZeros32(b[len(b)-1]))
	v := b.left(shift)
	u := a.left(shift)
	for len(u) <= len(a) {
		u = append(u, 0)
	}
	n := len(v)
	q = make(nat, len(u)-n)
	for j := len(u) - n - 1; j >= 0; j-- {
		q[j] = divideStep(u[j:j+n+1], v)
	}
	return cut(q), cut(u[:n]).right(shift)
}

// divideStep takes v from u as often as it goes, and returns how often that was.
func divideStep(u, v nat) uint32 {
	n := len(v)
	head := uint64(u[n])<<32 | uint64(u[n-1])
	guess, rest := head/uint64(v[n-1]), head%uint64(v[n-1])
	for guess >= 1<<32 || guess*uint64(v[n-2]) > rest<<32|uint64(u[n-2]) {
		guess--
		rest += uint64(v[n-1])
		if rest >= 1<<32 {
			break
		}
	}
	borrow, carry := uint32(0), uint64(0)
	for i, y := range v {
		t := guess*uint64(y) + carry
		carry = t >> 32
		u[i], borrow = bits.Sub32(u[i], uint32(t), borrow)
	}
	u[n], borrow = bits.Sub32(u[n], uint32(carry), borrow)
	if borrow != 0 {
		guess--
		c := uint32(0)
		for i, y := range v {
			u[i], c = bits.Add32(u[i], y, c)
		}
		u[n] += c
	}
	return uint32(guess)
}

func (a nat) length() int {
	if len(a) == 0 {
		return 0
	}
	return 32*len(a) - bits.LeadingZeros32(a[len(a)-1])
}

func (a nat) left(n uint) nat {
	if len(a) == 0 {
		return nil
	}
	out := make(nat, int(n/32)+len(a)+1)
	for i, x := range a {
		t := uint64(x) << (n % 32)
		out[int(n/32)+i] |= uint32(t)
		out[int(n/32)+i+1] |= uint32(t >> 32)
	}
	return cut(out)
}

func (a nat) right(n uint) nat {
	from := int(n / 32)
	if from >= len(a) {
		return nil
	}
	out := make(nat, len(a)-from)
	for i := range out {
		t := uint64(a[from+i])
		if from+i+1 < len(a) {
			t |= uint64(a[from+i+1]) << 32
		}
		out[i] = uint32(t >> (n % 32))
	}
	return cut(out)
}

// root is the greatest number whose square is at most a, by Newton's way from above.
func (a nat) root() nat {
	if len(a) == 0 {
		return nil
	}
	x := nat{1}.left(uint(a.length()+1) / 2)
	for {
		q, _ := a.by(x)
		next := x.plus(q).right(1)
		if next.compare(x) >= 0 {
			return x
		}
		x = next
	}
}

// digits writes a with digits of a base.
func (a nat) digits(base int) string {
	if len(a) == 0 {
		return "0"
	}
	step, count := chunk(base)
	var out []byte
	for a = append(nat(nil), a...); len(a) > 0; {
		var rest uint32
		a, rest = a.byWord(step)
		for i := 0; i < count && (len(a) > 0 || rest > 0); i++ {
			out = append(out, "0123456789abcdefghijklmnopqrstuvwxyz"[int(rest)%base])
			rest /= uint32(base)
		}
	}
	for i, j := 0, len(out)-1; i < j; i, j = i+1, j-1 {
		out[i], out[j] = out[j], out[i]
	}
	return string(out)
}

// chunk returns the greatest power of a base that fits into a word, and its exponent.
func chunk(base int) (uint32, int) {
	step, count := uint64(1), 0
	for step*uint64(base) < 1<<32 {
		step *= uint64(base)
		count++
	}
	return uint32(step), count
}

// maxBits is more than any number of MaxDigits digits has.
const maxBits = api.MaxDigits*10/3 + 8

// read returns the number of digits of a base; long if it has far too many.
func read(s string, base int) (a nat, long bool) {
	for s != "" && s[0] == '0' {
		s = s[1:]
	}
	if len(s) > maxBits {
		return nil, true
	}
	_, count := chunk(base)
	for s != "" {
		n := min(count, len(s))
		step, part := uint32(1), uint32(0)
		for i := range n {
			step *= uint32(base)
			part = part*uint32(base) + uint32(digit(s[i]))
		}
		a = a.timesPlus(step, part)
		s = s[n:]
	}
	return a, false
}

// tooLong reports whether a has more than MaxDigits digits.
func (a nat) tooLong() bool {
	if a.length() < maxBits-20 {
		return false
	}
	return a.length() > maxBits || len(a.digits(10)) > api.MaxDigits
}
