package text

import (
	"iter"
	"strings"
)

// item stands for one byte: any one, or one of a set.
type item struct {
	any bool
	set *[256]bool
	c   byte
}

func (m item) fits(c byte) bool {
	if m.any {
		return true
	}
	if m.set != nil {
		return m.set[c]
	}
	return m.c == c
}

// segment is what stands between two stars; plain is its text if it has bytes alone.
type segment struct {
	items   []item
	plain   string
	isPlain bool
}

func (g *segment) add(m item) {
	g.items = append(g.items, m)
	if m.any || m.set != nil {
		g.isPlain = false
	}
}

func (g *segment) at(s string, i int) bool {
	if len(s)-i < len(g.items) {
		return false
	}
	if g.isPlain {
		return strings.HasPrefix(s[i:], g.plain)
	}
	for k, m := range g.items {
		if !m.fits(s[i+k]) {
			return false
		}
	}
	return true
}

// find returns where a segment stands first: -1 for nowhere.
func (g *segment) find(s string, from int) int {
	if g.isPlain {
		at := strings.Index(s[from:], g.plain)
		if at < 0 {
			return -1
		}
		return from + at
	}
	for i := from; i+len(g.items) <= len(s); i++ {
		if g.at(s, i) {
			return i
		}
	}
	return -1
}

// Glob reports whether a pattern matches a whole text.
func Glob(pattern, s string, fold bool) bool {
	segments, ok := readGlob(pattern, fold)
	if !ok {
		return false
	}
	if fold {
		s = Lower(s)
	}
	last := len(segments) - 1
	if last == 0 {
		return len(s) == len(segments[0].items) && segments[0].at(s, 0)
	}
	end := len(s) - len(segments[last].items)
	if !segments[0].at(s, 0) || end < len(segments[0].items) || !segments[last].at(s, end) {
		return false
	}
	// Each segment between stars is taken where it stands first; halving keeps the recursion low.
	var walk func(from, to, at int) int
	walk = func(from, to, at int) int {
		switch {
		case from >= to || at < 0:
			return at
		case from+1 == to:
			i := segments[from].find(s[:end], at)
			if i < 0 {
				return -1
			}
			return i + len(segments[from].items)
		}
		mid := (from + to) / 2
		return walk(mid, to, walk(from, mid, at))
	}
	return walk(1, last, len(segments[0].items)) >= 0
}

// readGlob cuts a pattern at its stars; false if a set in it never ends.
func readGlob(p string, fold bool) ([]segment, bool) {
	list := []segment{{isPlain: true}}
	for i := 0; i < len(p); i++ {
		g := &list[len(list)-1]
		switch c := p[i]; {
		case c == '*':
			list = append(list, segment{isPlain: true})
			continue
		case c == '?':
			g.add(item{any: true})
		case c == '[':
			n := strings.IndexByte(p[i:], ']')
			if n < 0 {
				return nil, false
			}
			g.add(item{set: readSet(p[i+1:i+n], fold)})
			i += n
		default:
			if c == '\\' && i+1 < len(p) {
				i++
				c = p[i]
			}
			if fold {
				c = small(c)
			}
			g.add(item{c: c})
		}
	}
	for k := range list {
		list[k].spell()
	}
	return list, true
}

func (g *segment) spell() {
	if !g.isPlain {
		return
	}
	b := make([]byte, len(g.items))
	for i, m := range g.items {
		b[i] = m.c
	}
	g.plain = string(b)
}

func readSet(s string, fold bool) *[256]bool {
	var set [256]bool
	for c := range setBytes(s) {
		set[c] = true
		if fold {
			set[small(c)] = true
		}
	}
	return &set
}

// setBytes yields the bytes of a set, ranges written out.
func setBytes(s string) iter.Seq[byte] {
	return func(yield func(byte) bool) {
		for i := 0; i < len(s); i++ {
			from, to := s[i], s[i]
			if i+2 < len(s) && s[i+1] == '-' {
				to = s[i+2]
				i += 2
			}
			for c := int(min(from, to)); c <= int(max(from, to)); c++ {
				if !yield(byte(c)) {
					return
				}
			}
		}
	}
}
