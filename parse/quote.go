package parse

import (
	"strings"

	"threadbare/text"
)

// Words are quoted as layer 2 quotes elements; this package stands beside that one, so it has its own way.

func special(c byte) bool { return text.White(c) || strings.IndexByte(`"\{}$[];`, c) >= 0 }

func quote(s string) string {
	plain := s != "" && s[0] != '#'
	for i := range len(s) {
		plain = plain && !special(s[i])
	}
	switch {
	case plain:
		return s
	case balanced(s):
		return "{" + s + "}"
	}
	var out strings.Builder
	for i := range len(s) {
		c := s[i]
		if special(c) || i == 0 && c == '#' {
			out.WriteByte('\\')
		}
		if k := strings.IndexByte("\t\n\v\f\r", c); k >= 0 {
			c = "tnvfr"[k]
		}
		out.WriteByte(c)
	}
	return out.String()
}

// balanced reports whether a text between braces is read as itself.
func balanced(s string) bool {
	level := 0
	for i := 0; i < len(s); i++ {
		switch {
		case s[i] == '\\':
			if i++; i == len(s) || s[i] == '\n' {
				return false
			}
		case s[i] == '{':
			level++
		case s[i] == '}' && level == 0:
			return false
		case s[i] == '}':
			level--
		}
	}
	return level == 0 && text.First("\\\n", s, 0) < 0
}
