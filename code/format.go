package code

import (
	"strconv"
	"strings"

	"threadbare/api"
	"threadbare/list"
	"threadbare/text"
)

// Format returns a line for each instruction.
func Format(c []api.Instr) string {
	if len(c) > maxList {
		return ""
	}
	var out strings.Builder
	for _, in := range c {
		out.WriteString(line(in))
	}
	return out.String()
}

func line(in api.Instr) string {
	return strconv.Itoa(in.Op) + " " + strconv.Itoa(in.A) + " " + quoted(in.S) + "\n"
}

// quoted quotes a text so that it takes one line.
func quoted(s string) string {
	if strings.IndexByte(s, '\n') < 0 {
		return list.Quote(s)
	}
	var out strings.Builder
	for i := range len(s) {
		c := s[i]
		if text.White(c) || strings.IndexByte("\"\\{}$[];", c) >= 0 || c == '#' && i == 0 {
			out.WriteByte('\\')
		}
		if k := strings.IndexByte("\t\n\v\f\r", c); k >= 0 {
			c = "tnvfr"[k]
		}
		out.WriteByte(c)
	}
	return out.String()
}

// Parse reads what Format writes.
func Parse(s string) (c []api.Instr, number int, e api.Errno) {
	if len(s) > api.MaxText {
		return nil, 0, api.ErrLong
	}
	for s != "" {
		end := strings.IndexByte(s, '\n') + 1
		in, ok := parseLine(s[:end])
		if !ok {
			return nil, len(c), api.ErrSyntax
		}
		c = append(c, in)
		s = s[end:]
	}
	return c, 0, api.OK
}

func parseLine(s string) (api.Instr, bool) {
	op, rest, _ := strings.Cut(strings.TrimSuffix(s, "\n"), " ")
	a, rest, _ := strings.Cut(rest, " ")
	l, _, e := list.Split(rest)
	if e != api.OK || len(l) != 1 {
		return api.Instr{}, false
	}
	n, _ := strconv.Atoi(op)
	m, _ := strconv.Atoi(a)
	in := api.Instr{Op: n, A: m, S: l[0]}
	return in, n >= api.IPush && n <= api.ITrue && m >= 0 && m <= 1000000000 && line(in) == s
}
