package list

import (
	"strings"

	"threadbare/api"
	"threadbare/text"
)

// places reports whether words are places: that is asked before any limit.
func places(words ...string) api.Errno {
	for _, word := range words {
		if _, e := text.Place(word, 0); e != api.OK {
			return e
		}
	}
	return api.OK
}

// Index returns the element at a path of places.
func Index(s string, path []string) (string, api.Errno) {
	if e := places(path...); e != api.OK {
		return "", e
	}
	for _, word := range path {
		l, e := split(s)
		if e != api.OK {
			return "", e
		}
		i, _ := text.Place(word, len(l))
		s = ""
		if i >= 0 && i < len(l) {
			s = l[i]
		}
	}
	return short(s)
}

func short(s string) (string, api.Errno) {
	if len(s) > api.MaxText {
		return "", api.ErrLimit
	}
	return s, api.OK
}

// Set returns the list with another value at a path.
func Set(s string, path []string, value string) (string, api.Errno) {
	if e := places(path...); e != api.OK {
		return "", e
	}
	// the lists on the way, from the outermost to the innermost one
	var way [][]string
	var at []int
	for _, word := range path {
		l, _, e := all(s)
		if e != api.OK {
			return "", e
		}
		i, _ := text.Place(word, len(l))
		switch {
		case i < 0 || i > len(l):
			return "", api.ErrRange
		case i == len(l):
			l = append(l, "")
		}
		way, at, s = append(way, l), append(at, i), l[i]
	}
	for k := len(way) - 1; k >= 0; k-- {
		way[k][at[k]] = value
		joined, e := Join(way[k])
		if e != api.OK {
			return "", e
		}
		value = joined
	}
	return short(value)
}

// span returns the elements of a list, and from and to as indexes, cut to the list.
func span(s, from, to string) (l []string, i, j int, e api.Errno) {
	if e = places(from, to); e != api.OK {
		return
	}
	if l, e = split(s); e != api.OK {
		return
	}
	i, _ = text.Place(from, len(l))
	j, _ = text.Place(to, len(l))
	return l, min(max(i, 0), len(l)), min(j, len(l)-1), api.OK
}

// Range returns the elements from a place to another one.
func Range(s, from, to string) (string, api.Errno) {
	l, i, j, e := span(s, from, to)
	if e != api.OK {
		return "", e
	}
	if i > j {
		return "", api.OK
	}
	return Join(l[i : j+1])
}

// Replace returns the list with the elements from a place to another one replaced.
func Replace(s, from, to string, with []string) (string, api.Errno) {
	l, i, j, e := span(s, from, to)
	if e != api.OK {
		return "", e
	}
	return Join(put(l, i, max(j+1, i), with))
}

func put(l []string, from, to int, with []string) []string {
	out := make([]string, 0, len(l)+len(with))
	out = append(out, l[:from]...)
	out = append(out, with...)
	return append(out, l[to:]...)
}

// Insert returns the list with others put in before a place.
func Insert(s, at string, with []string) (string, api.Errno) {
	if e := places(at); e != api.OK {
		return "", e
	}
	l, e := split(s)
	if e != api.OK {
		return "", e
	}
	// end is the length here: that of a list with one element more
	i, _ := text.Place(at, len(l)+1)
	i = min(max(i, 0), len(l))
	return Join(put(l, i, i, with))
}

// Reverse reverses the order.
func Reverse(s string) (string, api.Errno) {
	l, e := split(s)
	if e != api.OK {
		return "", e
	}
	for i, j := 0, len(l)-1; i < j; i, j = i+1, j-1 {
		l[i], l[j] = l[j], l[i]
	}
	return Join(l)
}

// Repeat joins a list of elements n times.
func Repeat(l []string, n int) (string, api.Errno) {
	if n < 1 || len(l) == 0 {
		return "", api.OK
	}
	if n > api.MaxList/len(l) {
		return "", api.ErrLimit
	}
	out := make([]string, 0, n*len(l))
	for range n {
		out = append(out, l...)
	}
	return Join(out)
}

// Concat returns texts, trimmed, without empty ones, with single blanks between.
func Concat(l []string) string {
	var out []string
	for _, s := range l {
		if s = trimmed(s); s != "" {
			out = append(out, s)
		}
	}
	return strings.Join(out, " ")
}

func trimmed(s string) string {
	s = s[skip(s, 0):]
	for s != "" && text.White(s[len(s)-1]) {
		n := len(s) - 1
		for n > 0 && s[n-1] == '\\' {
			n--
		}
		if (len(s)-1-n)%2 == 1 {
			break
		}
		s = s[:len(s)-1]
	}
	return s
}

// Flat returns the list of all elements of the elements.
func Flat(s string) (string, api.Errno) {
	l, e := split(s)
	if e != api.OK {
		return "", e
	}
	var out []string
	limit := api.OK
	for _, inner := range l {
		m, e := split(inner)
		switch {
		case e == api.ErrSyntax:
			return "", e
		case e != api.OK || len(out) > api.MaxList:
			limit = api.ErrLimit
		default:
			out = append(out, m...)
		}
	}
	if limit != api.OK {
		return "", limit
	}
	return Join(out)
}
