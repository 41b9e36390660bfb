package expr

import (
	"slices"

	"threadbare/api"
	"threadbare/big"
	"threadbare/list"
	"threadbare/text"
	"threadbare/value"
)

// operator is one of two operands: it does what its sign says.
type operator struct {
	do func(a, b string) (result, problem string)
}

// single is an operator before one operand.
type single struct {
	do func(a string) (result, problem string)
}

// function takes from least to most operands.
type function struct {
	least, most int
	do          func(args []string) (result, problem string)
}

func told(word, about string) string { return word + ": " + text.Detail(about) }

// noNumber tells the first operand that is no number.
func noNumber(args ...string) string {
	for _, a := range args {
		if _, e := big.Canonical(a); e == api.ErrSyntax {
			return told("number", a)
		}
	}
	return ""
}

// reckoned tells the result of a function of layer 3 as expressions do; last is the operand that a range is told of.
func reckoned(result string, e api.Errno, last string, args ...string) (string, string) {
	switch e {
	case api.OK:
		return result, ""
	case api.ErrSyntax:
		return "", noNumber(args...)
	case api.ErrZero:
		return "", "zero"
	case api.ErrRange:
		return "", told("range", last)
	}
	return "", "long"
}

func binary(do func(a, b string) (string, api.Errno)) operator {
	return operator{func(a, b string) (string, string) {
		result, e := do(a, b)
		return reckoned(result, e, b, a, b)
	}}
}

func shift(a, b string, sign int) (string, api.Errno) {
	if _, e := big.Canonical(a); e == api.ErrSyntax {
		return "", e
	}
	n, e := big.Int(b)
	if e == api.OK && (n < 0 || n > 100000) {
		e = api.ErrRange
	}
	if e != api.OK {
		return "", e
	}
	return big.Shift(a, sign*n)
}

// compared compares as numbers, or otherwise as texts.
func compared(a, b string) int {
	if n, e := big.Compare(a, b); e == api.OK {
		return n
	}
	return text.Compare(a, b)
}

func bit(b bool) string {
	if b {
		return "1"
	}
	return "0"
}

func order(is func(n int) bool) operator {
	return operator{func(a, b string) (string, string) { return bit(is(compared(a, b))), "" }}
}

func element(want bool) operator {
	return operator{func(a, b string) (string, string) {
		l, _, e := list.Split(b)
		if e != api.OK {
			return "", told("list", b)
		}
		return bit(slices.Contains(l, a) == want), ""
	}}
}

func binaries() map[string]operator {
	return map[string]operator{
		"+":  binary(big.Add),
		"-":  binary(big.Sub),
		"*":  binary(big.Mul),
		"/":  binary(func(a, b string) (string, api.Errno) { q, _, e := big.Div(a, b); return q, e }),
		"%":  binary(func(a, b string) (string, api.Errno) { _, r, e := big.Div(a, b); return r, e }),
		"**": binary(big.Pow),
		"<<": binary(func(a, b string) (string, api.Errno) { return shift(a, b, 1) }),
		">>": binary(func(a, b string) (string, api.Errno) { return shift(a, b, -1) }),
		"&":  binary(big.And),
		"|":  binary(big.Or),
		"^":  binary(big.Xor),
		"<":  order(func(n int) bool { return n < 0 }),
		">":  order(func(n int) bool { return n > 0 }),
		"<=": order(func(n int) bool { return n <= 0 }),
		">=": order(func(n int) bool { return n >= 0 }),
		"==": order(func(n int) bool { return n == 0 }),
		"!=": order(func(n int) bool { return n != 0 }),
		"eq": {func(a, b string) (string, string) { return bit(a == b), "" }},
		"ne": {func(a, b string) (string, string) { return bit(a != b), "" }},
		"in": element(true),
		"ni": element(false),
	}
}

func numeric(do func(a string) (string, api.Errno)) single {
	return single{func(a string) (string, string) {
		result, e := do(a)
		return reckoned(result, e, a, a)
	}}
}

func truth(want bool) single {
	return single{func(a string) (string, string) {
		is, problem := Truth(a)
		if problem != "" {
			return "", problem
		}
		return bit(is == want), ""
	}}
}

func singles() map[string]single {
	return map[string]single{"-": numeric(big.Neg), "+": numeric(big.Canonical), "~": numeric(big.Not), "!": truth(false)}
}

// Truth returns whether a text is true, or the error text.
func Truth(s string) (bool, string) {
	is, e := value.New(s).Truth()
	if e != api.OK {
		return false, told("truth", s)
	}
	return is, ""
}

// Apply does an operator of one or two operands.
func Apply(op string, args []string) (result, problem string) {
	switch len(args) {
	case 1:
		if o, ok := singles()[op]; ok {
			return o.do(args[0])
		}
	case 2:
		if o, ok := binaries()[op]; ok {
			return o.do(args[0], args[1])
		}
	}
	return "", told("operator", op)
}

// best returns the one of several that comes first by a comparison.
func best[T any](l []T, before func(a, b T) bool) T {
	out := l[0]
	for _, one := range l[1:] {
		if before(one, out) {
			out = one
		}
	}
	return out
}

func extreme(sign int) function {
	return function{1, 1 << 30, func(args []string) (string, string) {
		numbers := make([]string, len(args))
		long := ""
		for i, a := range args {
			n, e := big.Canonical(a)
			if e == api.ErrSyntax {
				return "", told("number", a)
			}
			if e != api.OK {
				long = "long"
			}
			numbers[i] = n
		}
		if long != "" {
			return "", long
		}
		return best(numbers, func(a, b string) bool {
			n, _ := big.Compare(a, b)
			return n*sign > 0
		}), ""
	}}
}

func one(s single) function {
	return function{1, 1, func(args []string) (string, string) { return s.do(args[0]) }}
}

func pair(do func(a, b string) (string, api.Errno)) function {
	return function{2, 2, func(args []string) (string, string) { return binary(do).do(args[0], args[1]) }}
}

func functions() map[string]function {
	return map[string]function{
		"abs":  one(numeric(big.Abs)),
		"sign": one(numeric(func(a string) (string, api.Errno) { n, e := big.Sign(a); return big.Of(n), e })),
		"root": one(numeric(big.Root)),
		"not":  one(truth(false)),
		"bool": one(truth(true)),
		"min":  extreme(-1),
		"max":  extreme(1),
		"gcd":  pair(big.Gcd),
		"pow":  pair(big.Pow),
	}
}

// Call does a function.
func Call(name string, args []string) (result, problem string) {
	f, ok := functions()[name]
	if !ok || len(args) < f.least || len(args) > f.most {
		return "", told("function", name)
	}
	return f.do(args)
}

const maxLevel = 12

// Level returns the level of an operator of two operands, 0 for others.
func Level(op string) int {
	switch op {
	case "||":
		return 1
	case "&&":
		return 2
	case "|":
		return 3
	case "^":
		return 4
	case "&":
		return 5
	case "eq", "ne", "in", "ni":
		return 6
	case "==", "!=":
		return 7
	case "<", ">", "<=", ">=":
		return 8
	case "<<", ">>":
		return 9
	case "+", "-":
		return 10
	case "*", "/", "%":
		return 11
	case "**":
		return maxLevel
	}
	return 0
}

// Operators returns all operators of two operands, ascending.
func Operators() []string {
	out := []string{"&&", "||"}
	for op := range binaries() {
		out = append(out, op)
	}
	slices.Sort(out)
	return out
}
