package big

import "threadbare/api"

// combined puts the words of two numbers together, one by one.
func combined[W ~uint32 | ~uint64](a, b []W, do func(x, y W) W) []W {
	out := make([]W, len(a))
	for i := range a {
		out[i] = do(a[i], b[i])
	}
	return out
}

// words returns n words of a number's two's complement; n is enough for its size and a sign.
func words(a number, n int) []uint32 {
	out := make([]uint32, n)
	if !a.below {
		copy(out, a.size)
		return out
	}
	copy(out, a.not().size)
	for i := range out {
		out[i] = ^out[i]
	}
	return out
}

func ofWords(w []uint32) number {
	if w[len(w)-1]>>31 == 0 {
		return number{size: cut(w)}
	}
	for i := range w {
		w[i] = ^w[i]
	}
	return number{size: cut(w)}.not()
}

func bitwise(do func(x, y uint32) uint32) func(a, b number) number {
	return func(a, b number) number {
		n := max(len(a.size), len(b.size)) + 1
		return ofWords(combined(words(a, n), words(b, n), do))
	}
}

// And works on the bits.
func And(a, b string) (string, api.Errno) {
	return two(a, b, bitwise(func(x, y uint32) uint32 { return x & y }))
}

// Or works on the bits.
func Or(a, b string) (string, api.Errno) {
	return two(a, b, bitwise(func(x, y uint32) uint32 { return x | y }))
}

// Xor works on the bits.
func Xor(a, b string) (string, api.Errno) {
	return two(a, b, bitwise(func(x, y uint32) uint32 { return x ^ y }))
}

// Not works on the bits.
func Not(a string) (string, api.Errno) { return one(a, number.not) }
