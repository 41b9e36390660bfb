package expr

import (
	"strings"

	"threadbare/api"
	"threadbare/big"
	"threadbare/parse"
	"threadbare/text"
)

// stop is what the reader panics with.
type stop struct {
	at int
	e  api.Errno
}

type reader struct {
	s  string
	at int
}

// Parse reads an expression; with ErrSyntax, at tells where it is wrong.
func Parse(s string) (n api.Node, at int, e api.Errno) {
	defer func() {
		switch p := recover().(type) {
		case nil:
		case stop:
			n, at, e = api.Node{}, p.at, p.e
		default:
			panic(p)
		}
	}()
	r := &reader{s: s}
	n = r.whole()
	if r.at < len(s) {
		r.wrong(r.at)
	}
	if Depth(n) > api.MaxDeep {
		panic(stop{0, api.ErrLimit})
	}
	return n, 0, api.OK
}

func (r *reader) wrong(at int) { panic(stop{at, api.ErrSyntax}) }

func (r *reader) white() {
	for r.at < len(r.s) && text.White(r.s[r.at]) {
		r.at++
	}
}

// take passes over a byte, and what is white before it, if it stands here.
func (r *reader) take(c byte) bool {
	r.white()
	if r.at < len(r.s) && r.s[r.at] == c {
		r.at++
		return true
	}
	return false
}

func (r *reader) need(c byte) {
	if !r.take(c) {
		r.wrong(r.at)
	}
}

func (r *reader) whole() api.Node {
	a := r.binary(1)
	if !r.take('?') {
		return a
	}
	b := r.whole()
	r.need(':')
	c := r.whole()
	return api.Node{Kind: api.NOp, Text: "?", Args: []api.Node{a, b, c}}
}

// binary reads operands and operators of a level, or of greater ones.
func (r *reader) binary(level int) api.Node {
	left := r.unary()
	for {
		op := r.operator()
		n := Level(op)
		if n < level {
			return left
		}
		r.at += len(op)
		if n < maxLevel {
			n++ // those of one level group from the left
		}
		right := r.binary(n)
		left = api.Node{Kind: api.NOp, Text: op, Args: []api.Node{left, right}}
	}
}

// operator returns the operator of two operands that stands here, or nothing.
func (r *reader) operator() string {
	r.white()
	rest := r.s[r.at:]
	for n := min(2, len(rest)); n > 0; n-- {
		op := rest[:n]
		if Level(op) == 0 {
			continue
		}
		if letter(op[0]) && n < len(rest) && nameByte(rest[n]) {
			return ""
		}
		return op
	}
	return ""
}

func letter(c byte) bool { return c >= 'a' && c <= 'z' || c >= 'A' && c <= 'Z' }

func nameByte(c byte) bool { return letter(c) || c >= '0' && c <= '9' || c == '_' }

func (r *reader) unary() api.Node {
	r.white()
	if r.at < len(r.s) && strings.IndexByte("-+~!", r.s[r.at]) >= 0 {
		op := r.s[r.at : r.at+1]
		r.at++
		return api.Node{Kind: api.NOp, Text: op, Args: []api.Node{r.unary()}}
	}
	return r.operand()
}

func (r *reader) operand() api.Node {
	if r.take('(') {
		n := r.whole()
		r.need(')')
		return n
	}
	begin := r.at
	if begin == len(r.s) {
		r.wrong(begin)
	}
	if nameByte(r.s[begin]) {
		return r.named()
	}
	w, end, e := parse.Operand(r.s, begin)
	switch e {
	case api.OK:
	case api.ErrLimit:
		panic(stop{0, e})
	default:
		r.wrong(begin)
	}
	r.at = end
	return api.Node{Kind: api.NWord, Text: r.s[begin:end], Word: w}
}

// named reads a number, one of the six words, or a call.
func (r *reader) named() api.Node {
	begin := r.at
	for r.at < len(r.s) && nameByte(r.s[r.at]) {
		r.at++
	}
	name := r.s[begin:r.at]
	if !letter(name[0]) && name[0] != '_' {
		name, _, _ = strings.Cut(name, "_")
		r.at = begin + len(name)
		if !big.Valid(name) {
			r.wrong(begin)
		}
		return operand(name)
	}
	if !r.take('(') {
		if !isTruthWord(name) {
			r.wrong(begin)
		}
		return operand(name)
	}
	call := api.Node{Kind: api.NCall, Text: name, Args: []api.Node{r.whole()}}
	for r.take(',') {
		call.Args = append(call.Args, r.whole())
	}
	r.need(')')
	return call
}

func isTruthWord(s string) bool {
	switch s {
	case "true", "false", "yes", "no", "on", "off":
		return true
	}
	return false
}

// operand returns the operand of a text.
func operand(s string) api.Node {
	return api.Node{Kind: api.NWord, Text: s, Word: api.Word{Tokens: []api.Token{{Kind: api.TText, Text: s}}}}
}
