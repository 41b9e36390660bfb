package binary

import (
	"iter"
	"strings"

	"threadbare/api"
	"threadbare/big"
	"threadbare/text"
)

// all stands for the count *, none for no count.
const (
	all  = -1
	none = -2
)

// field is one of a layout.
type field struct {
	letter
	mark     byte
	count    int
	unsigned bool
}

// number is how many a field without a count has: one.
func (f field) number() int {
	if f.count == none {
		return 1
	}
	return f.count
}

// letter says what a field of it does. Its pack is nil for fields that take no argument.
type letter struct {
	pack   func(f field, arg string) ([]byte, api.Errno)
	unpack func(f field, s string) (told string, taken int)
	bytes  func(n int) int // how many bytes n of it are
	size   int             // bytes of a number
}

func letters() map[byte]letter {
	same := func(n int) int { return n }
	m := map[byte]letter{
		'a': {packText, unpackText, same, 0},
		'A': {packText, unpackText, same, 0},
		'x': {bytes: same},
		'@': {bytes: same},
	}
	for _, c := range []byte("hHbB") {
		each := 2
		if c == 'b' || c == 'B' {
			each = 8
		}
		m[c] = letter{packDigits, unpackDigits, func(n int) int { return (n + each - 1) / each }, 0}
	}
	for i, c := range []byte("csiwSIW") {
		size := [...]int{1, 2, 4, 8, 2, 4, 8}[i]
		m[c] = letter{packNumbers, unpackNumbers, func(n int) int { return n * size }, size}
	}
	return m
}

// fields yields the fields of a layout; at a wrong one, false, and the end.
func fields(layout string) iter.Seq2[field, bool] {
	return func(yield func(field, bool) bool) {
		known := letters()
		for i := 0; i < len(layout); {
			if layout[i] == ' ' {
				i++
				continue
			}
			f := field{mark: layout[i], count: none}
			l, ok := known[f.mark]
			f.letter = l
			i++
			if l.size > 0 && strings.HasPrefix(layout[i:], "u") {
				f.unsigned = true
				i++
			}
			n, right := readCount(layout[i:], &f.count)
			i += n
			if !ok || !right || f.mark == '@' && f.count == none {
				yield(f, false)
				return
			}
			if !yield(f, true) {
				return
			}
		}
	}
}

func readCount(s string, count *int) (n int, ok bool) {
	if strings.HasPrefix(s, "*") {
		*count = all
		return 1, true
	}
	for n < len(s) && s[n] >= '0' && s[n] <= '9' {
		*count = min(max(*count, 0)*10+int(s[n]-'0'), 10000)
		n++
	}
	return n, n <= 4 && (n < 2 || s[0] != '0')
}

// valid reads a whole layout.
func valid(layout string) ([]field, api.Errno) {
	var out []field
	for f, ok := range fields(layout) {
		if !ok {
			return nil, api.ErrSyntax
		}
		out = append(out, f)
	}
	return out, api.OK
}

func packText(f field, arg string) ([]byte, api.Errno) {
	n := f.number()
	if n == all {
		n = len(arg)
	}
	fill := byte(0)
	if f.mark == 'A' {
		fill = ' '
	}
	out := []byte(arg[:min(n, len(arg))])
	for len(out) < n {
		out = append(out, fill)
	}
	return out, api.OK
}

func unpackText(f field, s string) (string, int) {
	told := s
	if f.mark == 'A' {
		told = strings.TrimRight(s, " \x00")
	}
	return told, len(s)
}

// digitBits returns how many bits a digit of a field has, and whether the first one is in the low ones.
func (f field) digitBits() (int, bool) {
	if f.mark == 'h' || f.mark == 'H' {
		return 4, f.mark == 'h'
	}
	return 1, f.mark == 'b'
}

func shiftOf(i, bits int, low bool) int {
	at := i * bits % 8
	if low {
		return at
	}
	return 8 - bits - at
}

func packDigits(f field, arg string) ([]byte, api.Errno) {
	bits, low := f.digitBits()
	for i := range len(arg) {
		if worth(arg[i]) >= 1<<bits {
			return nil, api.ErrKind
		}
	}
	n := f.number()
	if n == all {
		n = len(arg)
	}
	out := make([]byte, f.bytes(n))
	for i := range min(n, len(arg)) {
		out[i*bits/8] |= byte(worth(arg[i])) << shiftOf(i, bits, low)
	}
	return out, api.OK
}

func unpackDigits(f field, s string) (string, int) {
	bits, low := f.digitBits()
	n := f.number()
	if n == all {
		n = len(s) * 8 / bits
	}
	out := make([]byte, n)
	for i := range out {
		out[i] = "0123456789abcdef"[int(s[i*bits/8])>>shiftOf(i, bits, low)&(1<<bits-1)]
	}
	return string(out), len(s)
}

// worth returns what a hexadecimal digit is worth, 99 for another byte.
func worth(c byte) int {
	if n := strings.IndexByte("0123456789abcdef", c); n >= 0 {
		return n
	}
	if n := strings.IndexByte("ABCDEF", c); n >= 0 {
		return n + 10
	}
	return 99
}

func words(s string) []string {
	var out []string
	for i := 0; i < len(s); i++ {
		begin := i
		for i < len(s) && !text.White(s[i]) {
			i++
		}
		if i > begin {
			out = append(out, s[begin:i])
		}
	}
	return out
}

// arranged returns the same in the order of a field: the low one first, or the high one.
func arranged[T any](low []T, highFirst bool) []T {
	out := make([]T, len(low))
	for i, one := range low {
		if highFirst {
			i = len(low) - 1 - i
		}
		out[i] = one
	}
	return out
}

func (f field) highFirst() bool { return f.mark == 'S' || f.mark == 'I' || f.mark == 'W' }

func packNumbers(f field, arg string) ([]byte, api.Errno) {
	l := []string{arg}
	n := f.number()
	if f.count != none {
		l = words(arg)
		if n == all {
			n = len(l)
		}
	}
	if len(l) < n {
		return nil, api.ErrKind
	}
	var out []byte
	for i, w := range l {
		s, e := big.And(w, "0xffffffffffffffff")
		switch {
		case e == api.ErrSyntax:
			return nil, api.ErrKind
		case e != api.OK:
			return nil, e
		case i >= n:
			continue
		}
		s, _ = big.Base(s, 16)
		bits := uint64(0)
		for k := range len(s) {
			bits = bits<<4 | uint64(worth(s[k]))
		}
		low := make([]byte, f.size)
		for k := range low {
			low[k] = byte(bits >> (8 * k))
		}
		out = append(out, arranged(low, f.highFirst())...)
	}
	return out, api.OK
}

func unpackNumbers(f field, s string) (string, int) {
	n := len(s) / f.size
	told := make([]string, n)
	for i := range told {
		bits := uint64(0)
		for k, c := range arranged([]byte(s[i*f.size:(i+1)*f.size]), f.highFirst()) {
			bits |= uint64(c) << (8 * k)
		}
		told[i] = f.number64(bits)
	}
	return strings.Join(told, " "), n * f.size
}

// number64 tells a number of the field's bits, with a sign or without.
func (f field) number64(bits uint64) string {
	unused := 64 - 8*f.size
	if !f.unsigned {
		return big.Of(int(bits<<unused) >> unused)
	}
	high, _ := big.Shift(big.Of(int(bits>>1)), 1)
	n, _ := big.Add(high, big.Of(int(bits&1)))
	return n
}
