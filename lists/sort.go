package lists

import (
	"strconv"
	"strings"

	"threadbare/api"
	"threadbare/big"
	"threadbare/core"
	"threadbare/list"
	"threadbare/text"
)

// option reads the words behind it, and returns how many it takes.
type option func(words []string) (int, api.Outcome)

// flag is an option that takes no word.
func flag(set func()) option {
	return func([]string) (int, api.Outcome) {
		set()
		return 0, api.Outcome{}
	}
}

// options reads options up to the last words, which it returns.
func options(words []string, last int, known map[string]option) ([]string, api.Outcome) {
	rest := words[1:]
	for len(rest) > last && strings.HasPrefix(rest[0], "-") {
		read, ok := known[rest[0]]
		if !ok {
			return nil, core.Fail("option", rest[0])
		}
		n, o := read(rest[1:])
		if core.Bad(o) {
			return nil, o
		}
		if len(rest) < last+1+n {
			return nil, core.Wrong(words)
		}
		rest = rest[1+n:]
	}
	if len(rest) != last {
		return nil, core.Wrong(words)
	}
	return rest, api.Outcome{}
}

// sorting is how lsort sorts: by a kind, or by a command.
type sorting struct {
	kind         int
	down, unique bool
	prefix       string
}

const byCommand = 3

func (p *sorting) known() map[string]option {
	kind := func(n int) option { return flag(func() { p.kind = n }) }
	return map[string]option{
		"-ascii":      kind(0),
		"-integer":    kind(1),
		"-nocase":     kind(2),
		"-decreasing": flag(func() { p.down = true }),
		"-increasing": flag(func() { p.down = false }),
		"-unique":     flag(func() { p.unique = true }),
		"-command": func(words []string) (int, api.Outcome) {
			p.kind = byCommand
			if len(words) > 0 {
				p.prefix = words[0]
			}
			return 1, api.Outcome{}
		},
	}
}

func doSort(x *core.Machine, words []string) api.Outcome {
	p := &sorting{}
	rest, o := options(words, 1, p.known())
	if core.Bad(o) {
		return o
	}
	var prefix []string
	if p.kind == byCommand {
		if prefix, o = x.List(p.prefix); core.Bad(o) {
			return o
		}
	}
	l, o := x.List(rest[0])
	if core.Bad(o) {
		return o
	}
	if p.kind == byCommand {
		return p.merge(l, asking(x, prefix))
	}
	s, e := list.Sort(rest[0], p.kind, p.down, p.unique)
	if e == api.ErrKind {
		return core.Fail("number", firstWrong(l))
	}
	return told(s, e)
}

// firstWrong returns the first element that does not sort as a number.
func firstWrong(l []string) string {
	for _, s := range l {
		one := list.Quote(s)
		if _, e := list.Sort(one, 1, false, false); e == api.ErrKind {
			return s
		}
	}
	return ""
}

// compare tells what a command tells of two elements: a number, or an outcome that is not COk.
type compare func(a, b string) (int, api.Outcome)

func asking(x *core.Machine, prefix []string) compare {
	return func(a, b string) (int, api.Outcome) {
		o := core.Join(append(prefix[:len(prefix):len(prefix)], a, b))
		if core.Bad(o) {
			return 0, o
		}
		if o = x.Script(o.Text); core.Bad(o) {
			return 0, o
		}
		n, e := big.Sign(o.Text)
		switch e {
		case api.OK:
			return n, api.Outcome{}
		case api.ErrSyntax:
			return 0, core.Fail("number", o.Text)
		}
		return 0, core.Problem("long")
	}
}

// merge sorts by merging.
func (p *sorting) merge(l []string, ask compare) api.Outcome {
	var sort func(l []string) ([]string, api.Outcome)
	sort = func(l []string) ([]string, api.Outcome) {
		if len(l) < 2 {
			return l, api.Outcome{}
		}
		first, o := sort(l[:len(l)/2])
		if core.Bad(o) {
			return nil, o
		}
		second, o := sort(l[len(l)/2:])
		if core.Bad(o) {
			return nil, o
		}
		return p.merged(first, second, ask)
	}
	sorted, o := sort(l)
	if core.Bad(o) {
		return o
	}
	if p.unique {
		if sorted, o = lastOfEqual(sorted, ask); core.Bad(o) {
			return o
		}
	}
	return core.Join(sorted)
}

func (p *sorting) merged(first, second []string, ask compare) ([]string, api.Outcome) {
	out := make([]string, 0, len(first)+len(second))
	for len(first) > 0 && len(second) > 0 {
		n, o := ask(first[0], second[0])
		if core.Bad(o) {
			return nil, o
		}
		if n > 0 && !p.down || n < 0 && p.down {
			out, second = append(out, second[0]), second[1:]
		} else {
			out, first = append(out, first[0]), first[1:]
		}
	}
	return append(append(out, first...), second...), api.Outcome{}
}

func lastOfEqual(l []string, ask compare) ([]string, api.Outcome) {
	var out []string
	for i, s := range l {
		if i > 0 {
			n, o := ask(l[i-1], s)
			if core.Bad(o) {
				return nil, o
			}
			if n == 0 {
				out = out[:len(out)-1]
			}
		}
		out = append(out, s)
	}
	return out, api.Outcome{}
}

// searching is how lsearch searches.
type searching struct {
	kind             int
	all, inline, not bool
	start            string
}

func (p *searching) known() map[string]option {
	kind := func(n int) option { return flag(func() { p.kind = n }) }
	return map[string]option{
		"-exact":  kind(0),
		"-glob":   kind(1),
		"-nocase": kind(2),
		"-all":    flag(func() { p.all = true }),
		"-inline": flag(func() { p.inline = true }),
		"-not":    flag(func() { p.not = true }),
		"-start": func(words []string) (int, api.Outcome) {
			if len(words) < 3 {
				return 1, api.Outcome{}
			}
			p.start = words[0]
			return 1, placeError(words[0])
		},
	}
}

func (p *searching) fits(pattern, s string) bool {
	if p.kind == 0 {
		return (pattern == s) != p.not
	}
	return text.Glob(pattern, s, p.kind == 2) != p.not
}

func doSearch(x *core.Machine, words []string) api.Outcome {
	p := &searching{kind: 1, start: "0"}
	rest, o := options(words, 2, p.known())
	if core.Bad(o) {
		return o
	}
	l, o := x.List(rest[0])
	if core.Bad(o) {
		return o
	}
	start, _ := text.Place(p.start, len(l))
	var out []string
	for i := max(start, 0); i < len(l); i++ {
		if !p.fits(rest[1], l[i]) {
			continue
		}
		if p.inline {
			out = append(out, l[i])
		} else {
			out = append(out, strconv.Itoa(i))
		}
		if !p.all {
			return core.Done(out[0])
		}
	}
	switch {
	case p.all:
		return core.Join(out)
	case p.inline:
		return api.Outcome{}
	}
	return core.Done("-1")
}
