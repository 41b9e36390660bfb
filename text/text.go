// Package text works on texts: any strings of bytes.
package text

import (
	"strings"

	"threadbare/api"
)

// White reports whether a byte is white.
func White(c byte) bool { return c == ' ' || c >= 9 && c <= 13 }

// Compare compares texts bytewise.
func Compare(a, b string) int { return strings.Compare(a, b) }

// Range returns the bytes from an index to another one, both included.
func Range(s string, from, to int) string {
	from, to = bounds(from, to, len(s))
	if from > to {
		return ""
	}
	return s[from : to+1]
}

func bounds(from, to, n int) (int, int) { return max(from, 0), min(to, n-1) }

// First returns the least index, at least from, of a needle: -1 without one.
func First(needle, s string, from int) int {
	from = max(from, 0)
	if needle == "" || from > len(s) {
		return -1
	}
	at := strings.Index(s[from:], needle)
	if at < 0 {
		return -1
	}
	return from + at
}

// Last returns the greatest index, at most to, of a needle: -1 without one.
func Last(needle, s string, to int) int {
	if needle == "" || to < 0 {
		return -1
	}
	end := min(min(to, len(s))+len(needle), len(s))
	return strings.LastIndex(s[:end], needle)
}

// Count returns how often s has the needle, without overlaps.
func Count(needle, s string) int {
	if needle == "" {
		return 0
	}
	return strings.Count(s, needle)
}

// Repeat returns s n times.
func Repeat(s string, n int) (string, api.Errno) {
	if n < 1 || s == "" {
		return "", api.OK
	}
	if n > api.MaxText/len(s) {
		return "", api.ErrLimit
	}
	return strings.Repeat(s, n), api.OK
}

// Reverse returns the bytes in the opposite order.
func Reverse(s string) string {
	b := make([]byte, len(s))
	for i := range len(s) {
		b[len(s)-1-i] = s[i]
	}
	return string(b)
}

func small(c byte) byte {
	if c >= 'A' && c <= 'Z' {
		return c + 'a' - 'A'
	}
	return c
}

func great(c byte) byte {
	if c >= 'a' && c <= 'z' {
		return c - 'a' + 'A'
	}
	return c
}

func each(s string, change func(byte) byte) string {
	b := []byte(s)
	for i, c := range b {
		b[i] = change(c)
	}
	return string(b)
}

// Lower changes all letters to small ones.
func Lower(s string) string { return each(s, small) }

// Upper changes all letters to great ones.
func Upper(s string) string { return each(s, great) }

// Title changes the first byte to great, the others to small ones.
func Title(s string) string {
	if s == "" {
		return ""
	}
	return Upper(s[:1]) + Lower(s[1:])
}

// Trim takes the bytes of a set away at the ends that are told.
func Trim(s, chars string, left, right bool) string {
	var set [256]bool
	for i := range len(chars) {
		set[chars[i]] = true
	}
	for left && s != "" && set[s[0]] {
		s = s[1:]
	}
	for right && s != "" && set[s[len(s)-1]] {
		s = s[:len(s)-1]
	}
	return s
}

// Map replaces the keys of pairs by their values, from the left.
func Map(s string, pairs []string, fold bool) (string, api.Errno) {
	if len(pairs)%2 != 0 {
		return "", api.ErrInvalid
	}
	seen := s
	if fold {
		seen = Lower(s)
	}
	keys, first := mapKeys(pairs, fold)
	var out strings.Builder
	at := 0
places:
	for at < len(s) && out.Len() <= api.MaxText {
		for _, k := range first[seen[at]] {
			if strings.HasPrefix(seen[at:], keys[k]) {
				out.WriteString(pairs[2*k+1])
				at += len(keys[k])
				continue places
			}
		}
		out.WriteByte(s[at])
		at++
	}
	if out.Len() > api.MaxText {
		return "", api.ErrLimit
	}
	return out.String(), api.OK
}

// mapKeys returns the keys of pairs, and for each byte those that begin with it: no other key is looked at there.
func mapKeys(pairs []string, fold bool) ([]string, [256][]int) {
	keys := make([]string, len(pairs)/2)
	var first [256][]int
	for k := range keys {
		keys[k] = pairs[2*k]
		if fold {
			keys[k] = Lower(keys[k])
		}
		if keys[k] != "" {
			c := keys[k][0]
			first[c] = append(first[c], k)
		}
	}
	return keys, first
}

// Replace replaces the bytes from an index to another one.
func Replace(s string, from, to int, with string) (string, api.Errno) {
	from, to = bounds(from, to, len(s))
	if from <= to {
		s = s[:from] + with + s[to+1:]
	}
	if len(s) > api.MaxText {
		return "", api.ErrLimit
	}
	return s, api.OK
}

type class struct{ has func(c byte) bool }

func classes() map[string]class {
	lower := func(c byte) bool { return c >= 'a' && c <= 'z' }
	upper := func(c byte) bool { return c >= 'A' && c <= 'Z' }
	digit := func(c byte) bool { return c >= '0' && c <= '9' }
	alpha := func(c byte) bool { return lower(c) || upper(c) }
	return map[string]class{
		"alnum":  {func(c byte) bool { return alpha(c) || digit(c) }},
		"alpha":  {alpha},
		"digit":  {digit},
		"lower":  {lower},
		"upper":  {upper},
		"space":  {White},
		"print":  {func(c byte) bool { return c >= 32 && c <= 126 }},
		"xdigit": {func(c byte) bool { return digit(c) || small(c) >= 'a' && small(c) <= 'f' }},
	}
}

// Is reports whether all bytes are of a class.
func Is(name, s string) (bool, api.Errno) {
	c, ok := classes()[name]
	if !ok {
		return false, api.ErrName
	}
	for i := range len(s) {
		if !c.has(s[i]) {
			return false, api.OK
		}
	}
	return true, api.OK
}

// Detail returns the first bytes of a text, as errors tell them.
func Detail(s string) string { return s[:min(len(s), api.MaxDetail)] }
