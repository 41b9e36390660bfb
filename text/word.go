package text

import (
	"strings"

	"threadbare/api"
)

// digits returns how many of the first bytes of s, at most most, are digits below base.
func digits(s string, base, most int) int {
	n := 0
	for n < len(s) && n < most && digit(s[n]) < base {
		n++
	}
	return n
}

// digit returns what a digit (also a letter) is worth, 99 for another byte.
func digit(c byte) int {
	switch c = small(c); {
	case c >= '0' && c <= '9':
		return int(c - '0')
	case c >= 'a' && c <= 'z':
		return int(c-'a') + 10
	}
	return 99
}

// natural returns the number of the digits of a short text.
func natural(s string, base int) int {
	n := 0
	for i := range len(s) {
		n = n*base + digit(s[i])
	}
	return n
}

// Place returns the index that a place is, for a length.
func Place(word string, n int) (int, api.Errno) {
	if n < 0 {
		return 0, api.ErrRange
	}
	at := n - 1
	rest, ok := strings.CutPrefix(word, "end")
	if !ok {
		sign := 1
		if rest, ok = strings.CutPrefix(word, "-"); ok {
			sign = -1
		}
		k := digits(rest, 10, 9)
		if k == 0 {
			return 0, api.ErrSyntax
		}
		at, rest = sign*natural(rest[:k], 10), rest[k:]
	}
	if rest == "" {
		return at, api.OK
	}
	k := digits(rest[1:], 10, 9)
	if k == 0 || k+1 != len(rest) || rest[0] != '+' && rest[0] != '-' {
		return 0, api.ErrSyntax
	}
	if rest[0] == '-' {
		return at - natural(rest[1:], 10), api.OK
	}
	return at + natural(rest[1:], 10), api.OK
}

// Unescape returns what escaped bytes at the beginning of s are, and how many they take.
func Unescape(s string) (c string, n int) {
	switch {
	case s == "" || s[0] != '\\':
		return "", 0
	case s == "\\":
		return "\\", 1
	}
	if k := strings.IndexByte("abfnrtv", s[1]); k >= 0 {
		return "\a\b\f\n\r\t\v"[k : k+1], 2
	}
	switch rest := s[1:]; {
	case rest[0] == 'x':
		if k := digits(rest[1:], 16, 2); k > 0 {
			return string([]byte{byte(natural(rest[1:1+k], 16))}), k + 2
		}
	case rest[0] >= '0' && rest[0] <= '7':
		k := digits(rest, 8, 3)
		return string([]byte{byte(natural(rest[:k], 8))}), k + 1
	case rest[0] == '\n':
		k := 1
		for k < len(rest) && (rest[k] == ' ' || rest[k] == '\t') {
			k++
		}
		return " ", k + 1
	}
	return s[1:2], 2
}

// Unescaped replaces all escaped bytes.
func Unescaped(s string) string {
	if strings.IndexByte(s, '\\') < 0 {
		return s
	}
	var out strings.Builder
	for s != "" {
		c, n := Unescape(s)
		if n == 0 {
			c, n = s[:1], 1
		}
		out.WriteString(c)
		s = s[n:]
	}
	return out.String()
}
