package regex

import "threadbare/text"

// plainEscape returns the byte that an escape of one byte stands for.
func plainEscape(c byte) (byte, bool) {
	switch c {
	case 'n':
		return '\n', true
	case 't':
		return '\t', true
	case 'r':
		return '\r', true
	}
	return c, !alnum(c)
}

func wordByte(c byte) bool { return alnum(c) || c == '_' }

// class returns the bytes of \d, \s, \w.
func class(c byte) (set [256]bool, ok bool) {
	var has func(byte) bool
	switch c {
	case 'd':
		has = func(b byte) bool { return b >= '0' && b <= '9' }
	case 's':
		has = text.White
	case 'w':
		has = wordByte
	default:
		return set, false
	}
	for b := range 256 {
		set[b] = has(byte(b))
	}
	return set, true
}

func (r *reader) set() node {
	var b oneByte
	r.at++
	if r.is('^') {
		b.not = true
		r.at++
	}
	for first := true; first || !r.is(']'); first = false {
		if !r.more() {
			panic(wrong{len(r.p)})
		}
		r.item(&b.set, first)
	}
	r.at++
	return b
}

// rangeFollows reports whether a dash and an end of a range stand here.
func (r *reader) rangeFollows() bool {
	if !r.is('-') {
		return false
	}
	if r.at+1 == len(r.p) {
		panic(wrong{r.at})
	}
	return r.p[r.at+1] != ']'
}

// item reads a byte, a class or a range of a set.
func (r *reader) item(set *[256]bool, first bool) {
	begin := r.at
	if r.is('-') && !first {
		r.inner()
	}
	if r.is('\\') && r.at+1 < len(r.p) {
		if more, ok := class(r.p[r.at+1]); ok {
			r.at += 2
			if r.rangeFollows() {
				panic(wrong{begin})
			}
			for b := range more {
				set[b] = set[b] || more[b]
			}
			return
		}
	}
	from := r.end()
	to := from
	if r.rangeFollows() {
		r.at++
		to = r.end()
	}
	if to < from {
		panic(wrong{begin})
	}
	for b := int(from); b <= int(to); b++ {
		set[b] = true
	}
}

// inner looks at a dash behind other items: it must be the last one, or begin a range.
func (r *reader) inner() {
	rest := r.p[r.at+1:]
	last := rest != "" && rest[0] == ']'
	begins := len(rest) > 1 && rest[0] == '-' && rest[1] != ']'
	if !last && !begins {
		panic(wrong{r.at})
	}
}

// end reads a byte, or an escape of one, that may be an end of a range.
func (r *reader) end() byte {
	c := r.p[r.at]
	r.at++
	if c != '\\' {
		return c
	}
	if !r.more() {
		panic(wrong{len(r.p)})
	}
	b, ok := plainEscape(r.p[r.at])
	if !ok {
		panic(wrong{r.at - 1})
	}
	r.at++
	return b
}
