package list

import (
	"slices"
	"strconv"
	"strings"

	"threadbare/api"
	"threadbare/text"
)

type comparison func(a, b string) int

// by returns the comparison of what a function makes of the elements.
func by(made func(string) string) comparison {
	return func(a, b string) int { return text.Compare(made(a), made(b)) }
}

func reversed(c comparison) comparison {
	return func(a, b string) int { return c(b, a) }
}

func numbers(a, b string) int {
	n, _ := strconv.Atoi(a)
	m, _ := strconv.Atoi(b)
	return n - m
}

func isNumber(s string) bool {
	s = strings.TrimPrefix(s, "-")
	ok, _ := text.Is("digit", s)
	return ok && s != "" && len(s) <= 18
}

// Sort sorts a list by a kind of comparison.
func Sort(s string, kind int, down, unique bool) (string, api.Errno) {
	kinds := [...]comparison{by(func(s string) string { return s }), numbers, by(text.Lower)}
	if kind < 0 || kind >= len(kinds) {
		return "", api.ErrInvalid
	}
	l, _, e := all(s)
	if e != api.OK {
		return "", e
	}
	if kind == 1 && slices.ContainsFunc(l, func(s string) bool { return !isNumber(s) }) {
		return "", api.ErrKind
	}
	if len(l) > api.MaxList {
		return "", api.ErrLimit
	}
	compare := kinds[kind]
	if down {
		compare = reversed(compare)
	}
	slices.SortStableFunc(l, compare)
	if unique {
		l = lastOfEqual(l, compare)
	}
	return Join(l)
}

func lastOfEqual(l []string, compare comparison) []string {
	var out []string
	for i, s := range l {
		if i+1 == len(l) || compare(s, l[i+1]) != 0 {
			out = append(out, s)
		}
	}
	return out
}

// Search returns the first index, from or more, of an element that fits: -1 without one.
func Search(s, pattern string, kind, from int) (int, api.Errno) {
	kinds := [...]func(string) bool{
		func(el string) bool { return el == pattern },
		func(el string) bool { return text.Glob(pattern, el, false) },
		func(el string) bool { return text.Glob(pattern, el, true) },
	}
	if kind < 0 || kind >= len(kinds) {
		return 0, api.ErrInvalid
	}
	l, e := split(s)
	if e != api.OK {
		return 0, e
	}
	for i := max(from, 0); i < len(l); i++ {
		if kinds[kind](l[i]) {
			return i, api.OK
		}
	}
	return -1, api.OK
}
