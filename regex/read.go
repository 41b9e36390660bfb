package regex

import (
	"strings"

	"threadbare/api"
)

// node is a part of a pattern; least is the least number of bytes that it takes.
type node interface{ least() int }

// oneByte stands for a byte of a set (not: for one that is not in it).
type oneByte struct {
	set [256]bool
	not bool
}

// place is a place between bytes: its mark is ^, $ or y.
type place struct{ mark byte }

type look struct {
	of  node
	not bool
}

// group has the number 0 if it is not numbered.
type group struct {
	of     node
	number int
}

type backward struct{ number int }

// repeat has most below 0 if there is no greatest number.
type repeat struct {
	of         node
	from, most int
	lazy       bool
}

type sequence []node

type choice []node

func (oneByte) least() int  { return 1 }
func (place) least() int    { return 0 }
func (look) least() int     { return 0 }
func (g group) least() int  { return g.of.least() }
func (backward) least() int { return 0 }
func (r repeat) least() int { return r.from * r.of.least() }

func (s sequence) least() int {
	n := 0
	for _, p := range s {
		n = min(n+p.least(), far)
	}
	return n
}

func (c choice) least() int {
	n := c[0].least()
	for _, b := range c[1:] {
		n = min(n, b.least())
	}
	return n
}

const (
	maxGroups = 20
	maxSize   = 5000
	maxTimes  = 50
	far       = 1 << 40 // where sizes are no longer told apart
)

func size(p node) int {
	switch p := p.(type) {
	case look:
		return 1 + size(p.of)
	case group:
		return 1 + size(p.of)
	case repeat:
		times := p.most
		if times < 0 {
			times = p.from + 1
		}
		return max(min(size(p.of)*times, far), 1)
	case sequence:
		n := 0
		for _, one := range p {
			n = min(n+size(one), far)
		}
		return n
	case choice:
		n := len(p)
		for _, one := range p {
			n = min(n+size(one), far)
		}
		return n
	}
	return 1
}

// wrong is what the reader of patterns panics with.
type wrong struct{ at int }

// reader reads a pattern; looking counts the looks ahead around.
type reader struct {
	p                            string
	at, groups, deepest, looking int
	refers                       [10]bool
	looks                        bool
}

// pattern is one that was read.
type pattern struct {
	top    node
	groups int
	size   int
	short  bool  // it has a back reference or a look ahead
	refers []int // the groups that back references ask for
}

func read(p string) (out *pattern, at int, e api.Errno) {
	defer func() {
		switch w := recover().(type) {
		case nil:
		case wrong:
			out, at, e = nil, w.at, api.ErrSyntax
		default:
			panic(w)
		}
	}()
	r := &reader{p: p}
	top := r.choice(0)
	if r.more() {
		panic(wrong{r.at})
	}
	n := size(top)
	if r.groups > maxGroups || r.deepest > api.MaxDeep || n > maxSize {
		return nil, 0, api.ErrLimit
	}
	out = &pattern{top: top, groups: r.groups, size: n}
	for g, asked := range r.refers {
		if asked {
			out.refers = append(out.refers, g)
		}
	}
	out.short = r.looks || len(out.refers) > 0
	return out, 0, api.OK
}

func (r *reader) more() bool { return r.at < len(r.p) }

// is reports whether a byte stands here.
func (r *reader) is(c byte) bool { return r.more() && r.p[r.at] == c }

func (r *reader) choice(level int) node {
	r.deepest = max(r.deepest, level)
	c := choice{r.sequence(level)}
	for r.is('|') {
		r.at++
		c = append(c, r.sequence(level))
	}
	return c
}

func (r *reader) sequence(level int) node {
	var s sequence
	for r.more() && !r.is('|') && !r.is(')') {
		s = append(s, r.piece(level))
	}
	return s
}

func (r *reader) piece(level int) node {
	p := r.atom(level)
	if !r.more() || strings.IndexByte("*+?{", r.p[r.at]) < 0 {
		return p
	}
	switch p.(type) {
	case place, look:
		panic(wrong{r.at})
	}
	rep := repeat{of: p, most: -1}
	switch r.p[r.at] {
	case '{':
		rep.from, rep.most = r.times()
	case '?':
		rep.most = 1
	case '+':
		rep.from = 1
	}
	r.at++
	if r.is('?') {
		rep.lazy = true
		r.at++
	}
	return rep
}

// times reads what stands between braces, up to the closing one.
func (r *reader) times() (from, most int) {
	open := r.at
	r.at++
	from = r.number(open)
	most = from
	if r.is(',') {
		r.at++
		most = -1
		if !r.is('}') {
			most = r.number(open)
		}
	}
	if !r.is('}') || most >= 0 && most < from {
		panic(wrong{open})
	}
	return from, most
}

func (r *reader) number(open int) int {
	n, begin := 0, r.at
	for r.more() && r.p[r.at] >= '0' && r.p[r.at] <= '9' && r.at < begin+3 {
		n = 10*n + int(r.p[r.at]-'0')
		r.at++
	}
	if r.at == begin || r.at > begin+2 || n > maxTimes {
		panic(wrong{open})
	}
	return n
}

func single(c byte) oneByte {
	var b oneByte
	b.set[c] = true
	return b
}

func (r *reader) atom(level int) node {
	c := r.p[r.at]
	switch c {
	case '*', '+', '?', '{':
		panic(wrong{r.at})
	case '(':
		return r.parenthesis(level + 1)
	case '[':
		return r.set()
	case '\\':
		return r.escape()
	}
	r.at++
	switch c {
	case '.':
		return oneByte{not: true}
	case '^', '$':
		return place{c}
	}
	return single(c)
}

func (r *reader) parenthesis(level int) node {
	open := r.at
	r.at++
	kind := byte('(')
	if r.is('?') {
		r.at++
		if !r.more() || strings.IndexByte(":=!", r.p[r.at]) < 0 {
			panic(wrong{open + 1})
		}
		kind = r.p[r.at]
		r.at++
	}
	number := 0
	switch kind {
	case '(':
		if r.looking > 0 {
			panic(wrong{open})
		}
		r.groups++
		number = r.groups
	case '=', '!':
		r.looks = true
		r.looking++
	}
	of := r.choice(level)
	if !r.is(')') {
		panic(wrong{len(r.p)})
	}
	r.at++
	if kind == '=' || kind == '!' {
		r.looking--
		return look{of, kind == '!'}
	}
	return group{of, number}
}

func alnum(c byte) bool {
	return c >= '0' && c <= '9' || c >= 'a' && c <= 'z' || c >= 'A' && c <= 'Z'
}

func (r *reader) escape() node {
	slash := r.at
	if slash+1 == len(r.p) {
		panic(wrong{len(r.p)})
	}
	c := r.p[slash+1]
	r.at += 2
	if b, ok := plainEscape(c); ok {
		return single(b)
	}
	if set, ok := class(c); ok {
		return oneByte{set: set}
	}
	switch c {
	case 'D', 'S', 'W':
		set, _ := class(c + 'a' - 'A')
		return oneByte{set: set, not: true}
	case 'y':
		return place{'y'}
	}
	n := int(c) - '0'
	if n < 1 || n > 9 || n > r.groups || r.looking > 0 {
		panic(wrong{slash})
	}
	r.refers[n] = true
	return backward{n}
}
