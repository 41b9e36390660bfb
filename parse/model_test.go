package parse

import (
	"math/rand"
	"slices"
	"strings"
	"testing"

	"threadbare/api"
	"threadbare/list"
	"threadbare/text"
)

// Scripts are held against a second reader, which goes by indexes and hands its errors on.

type fail struct {
	at    int
	e     api.Errno
	noEnd bool
}

type second struct {
	s                    string
	slashes, vars, tasks bool
}

func (p second) begins(i int, what string) bool {
	return i <= len(p.s) && strings.HasPrefix(p.s[i:], what)
}

func (p second) skip(i int) int {
	for i < len(p.s) {
		if p.begins(i, "\\\n") {
			i += 2
		} else if strings.IndexByte(" \t\v\f\r", p.s[i]) >= 0 {
			i++
		} else {
			break
		}
	}
	return i
}

func (p second) commandEnds(i int, inside bool) bool {
	return i == len(p.s) || p.begins(i, "\n") || p.begins(i, ";") || inside && p.begins(i, "]")
}

func (p second) wordEnds(i int, inside bool) bool {
	return p.commandEnds(i, inside) || strings.IndexByte(" \t\v\f\r", p.s[i]) >= 0 || p.begins(i, "\\\n")
}

// script reads commands from i on; open is where the bracket stands that ends them, or -1.
func (p second) script(i, open, deep int) (l []api.Command, end int, f *fail) {
	for {
		i = p.skip(i)
		switch {
		case i == len(p.s) && open >= 0:
			return nil, 0, &fail{open, api.ErrSyntax, true}
		case i == len(p.s) || open >= 0 && p.s[i] == ']':
			return l, i, nil
		case p.commandEnds(i, open >= 0):
			i++
			continue
		case p.s[i] == '#':
			for slashes := 0; i < len(p.s) && (p.s[i] != '\n' || slashes%2 == 1); i++ {
				if p.s[i] == '\\' {
					slashes++
				} else {
					slashes = 0
				}
			}
			continue
		}
		c := api.Command{At: i}
		for i = p.skip(i); !p.commandEnds(i, open >= 0); i = p.skip(i) {
			var w api.Word
			if w, i, f = p.word(i, open >= 0, deep); f != nil {
				return nil, 0, f
			}
			c.Words = append(c.Words, w)
		}
		l = append(l, c)
	}
}

func (p second) word(i int, inside bool, deep int) (w api.Word, end int, f *fail) {
	for p.begins(i, "{*}") {
		if p.wordEnds(i+3, inside) {
			w.Tokens = []api.Token{{Kind: api.TText, Text: "*"}}
			return w, i + 3, nil
		}
		w.Spread = true
		i += 3
	}
	begin := p.s[i]
	switch begin {
	case '{':
		w.Tokens, i, f = p.braced(i)
	case '"':
		open := i
		w.Tokens, i, f = p.parts(i+1, deep, func(i int) bool { return p.begins(i, "\"") })
		if f == nil && i == len(p.s) {
			f = &fail{open, api.ErrSyntax, true}
		}
		i++
	default:
		w.Tokens, i, f = p.parts(i, deep, func(i int) bool { return p.wordEnds(i, inside) })
	}
	if f == nil && (begin == '{' || begin == '"') && !p.wordEnds(i, inside) {
		f = &fail{i, api.ErrSyntax, false}
	}
	if f == nil && len(w.Tokens) == 0 {
		w.Tokens = []api.Token{{Kind: api.TText}}
	}
	return w, i, f
}

func (p second) braced(open int) ([]api.Token, int, *fail) {
	out, level := "", 0
	for i := open; i < len(p.s); i++ {
		switch {
		case p.begins(i, "\\\n"):
			out += " "
			for i++; p.begins(i+1, " ") || p.begins(i+1, "\t"); i++ {
			}
			continue
		case p.s[i] == '\\' && i+1 < len(p.s):
			out += p.s[i : i+2]
			i++
			continue
		case p.s[i] == '{':
			level++
		case p.s[i] == '}':
			level--
		}
		if level == 0 {
			return []api.Token{{Kind: api.TText, Text: out}}, i + 1, nil
		}
		if i > open {
			out += p.s[i : i+1]
		}
	}
	return nil, 0, &fail{open, api.ErrSyntax, true}
}

// parts reads up to where it ends, or to the end of all.
func (p second) parts(i, deep int, ends func(i int) bool) (l []api.Token, end int, f *fail) {
	add := func(s string) {
		if n := len(l); n > 0 && l[n-1].Kind == api.TText {
			l[n-1].Text += s
		} else {
			l = append(l, api.Token{Kind: api.TText, Text: s})
		}
	}
	for i < len(p.s) && !ends(i) {
		var t api.Token
		next := i
		switch {
		case p.s[i] == '\\' && p.slashes:
			is, n := text.Unescape(p.s[i:])
			add(is)
			next = i + n
		case p.s[i] == '[' && p.tasks:
			if deep == api.MaxDeep {
				return nil, 0, &fail{0, api.ErrLimit, false}
			}
			_, end, f := second{p.s, true, true, true}.script(i+1, i, deep+1)
			if f != nil {
				return nil, 0, f
			}
			t, next = api.Token{Kind: api.TScript, Text: p.s[i+1 : end]}, end+1
		case p.s[i] == '$' && p.vars:
			if t, next, f = p.variable(i, deep); f != nil {
				return nil, 0, f
			}
		}
		switch {
		case t.Kind != 0:
			l = append(l, t)
		case next == i:
			add(p.s[i : i+1])
			next++
		}
		i = next
	}
	return l, i, nil
}

func (p second) variable(i, deep int) (t api.Token, end int, f *fail) {
	if p.begins(i, "${") {
		n := strings.IndexByte(p.s[i:], '}')
		if n < 0 {
			return t, 0, &fail{i, api.ErrSyntax, true}
		}
		return api.Token{Kind: api.TVar, Text: p.s[i+2 : i+n]}, i + n + 1, nil
	}
	end = i + 1
	for end < len(p.s) {
		if strings.IndexByte("abcdefghijklmnopqrstuvwxyzABCDEFGHIJKLMNOPQRSTUVWXYZ0123456789_", p.s[end]) >= 0 {
			end++
		} else if p.begins(end, "::") {
			for p.begins(end, ":") {
				end++
			}
		} else {
			break
		}
	}
	if end == i+1 {
		return t, i, nil
	}
	t = api.Token{Kind: api.TVar, Text: p.s[i+1 : end]}
	if p.begins(end, "(") {
		if deep == api.MaxDeep {
			return t, 0, &fail{0, api.ErrLimit, false}
		}
		open := end
		t.HasIndex = true
		t.Index, end, f = p.parts(open+1, deep+1, func(i int) bool { return p.begins(i, ")") })
		if f == nil && end == len(p.s) {
			f = &fail{open, api.ErrSyntax, true}
		}
		if len(t.Index) == 0 {
			t.Index = []api.Token{{Kind: api.TText}}
		}
		end++
	}
	return t, end, f
}

func pieces(r *rand.Rand, most int) string {
	s := ""
	for range r.Intn(most + 1) {
		s += []string{"a", "b", " ", "{", "}", "\\", "\n", "#", "\"", "$", "[", "]", ";", "(", ")", "{*}", "$a", "$a(", "${", "\\\n ", "::", "\t", "{a}", "[f]", "\r", ":", "x", "_9Z"}[r.Intn(28)]
	}
	return s
}

func TestAsASecondReader(t *testing.T) {
	r := rand.New(rand.NewSource(1))
	right := 0
	for range 150000 {
		s := pieces(r, 9)
		want, _, f := second{s, true, true, true}.script(0, -1, 0)
		l, at, e := Script(s)
		if f != nil {
			if e != f.e || at != f.at || len(l) != 0 || Complete(s) == f.noEnd {
				t.Fatalf("Script(%q): %d, %d, not %v", s, e, at, *f)
			}
		} else if right++; e != api.OK || at != 0 || Show(l) != Show(want) || !Complete(s) {
			t.Fatalf("Script(%q): %d, %d,\n%s, not\n%s", s, e, at, Show(l), Show(want))
		}
		slashes, vars, tasks := r.Intn(2) == 0, r.Intn(2) == 0, r.Intn(2) == 0
		tokens, _, f := second{s, slashes, vars, tasks}.parts(0, 0, func(int) bool { return false })
		got, at, e := Subst(s, slashes, vars, tasks)
		if f != nil {
			if e != f.e || at != f.at || len(got) != 0 {
				t.Fatalf("Subst(%q, %t, %t, %t): %d, %d, not %v", s, slashes, vars, tasks, e, at, *f)
			}
		} else if tokens1(got) != tokens1(tokens) || e != api.OK || at != 0 {
			t.Fatalf("Subst(%q, %t, %t, %t): %s, not %s", s, slashes, vars, tasks, tokens1(got), tokens1(tokens))
		}
		i := r.Intn(len(s) + 1)
		v, end, e := Variable(s, i)
		if i == len(s) || s[i] != '$' {
			if e != api.ErrNone {
				t.Fatalf("Variable(%q, %d): %d", s, i, e)
			}
			continue
		}
		one, to, f := second{s, true, true, true}.variable(i, 0)
		switch {
		case f != nil:
			if e != f.e || end != 0 || v.Kind != 0 {
				t.Fatalf("Variable(%q, %d): %d, %d", s, i, e, end)
			}
		case one.Kind == 0:
			if e != api.ErrNone || end != 0 {
				t.Fatalf("Variable(%q, %d): %d, %d", s, i, e, end)
			}
		case e != api.OK || end != to || tokens1([]api.Token{v}) != tokens1([]api.Token{one}):
			t.Fatalf("Variable(%q, %d) = %v, %d, %d", s, i, v, end, e)
		}
	}
	if right < 20000 {
		t.Errorf("only %d were right", right)
	}
}

func TestAllBytes(t *testing.T) {
	for c := range 256 {
		b := string([]byte{byte(c)})
		for _, s := range []string{"a" + b + "b", b + "a", "$a" + b, "$" + b + "a", "{a}" + b, "\"a\"" + b + "c", "[a" + b + "]", "a " + b, "$a(" + b + ")"} {
			want, _, f := second{s, true, true, true}.script(0, -1, 0)
			l, at, e := Script(s)
			if f == nil && (e != api.OK || Show(l) != Show(want)) || f != nil && (e != f.e || at != f.at) {
				t.Errorf("Script(%q): %d, %d, %s", s, e, at, Show(l))
			}
		}
		for _, words := range [][]string{{b}, {"a" + b}, {b + "a", "b"}, {"{" + b}, {b + "}", b}} {
			joined, _ := list.Join(words)
			if Quoted(words) != joined {
				t.Errorf("Quoted(%q) = %q, not %q", words, Quoted(words), joined)
			}
		}
	}
	for _, c := range []struct {
		s    string
		at   int
		want int
	}{{"a\nb\n", -5, 0}, {"a\nb\n", 1, 0}, {"a\nb\n", 2, 1}, {"a\nb\n", 4, 2}, {"a\nb\n", 99, 2}, {"", 0, 0}} {
		if got := Line(c.s, c.at); got != c.want {
			t.Errorf("Line(%q, %d) = %d", c.s, c.at, got)
		}
	}
}

// walked goes through commands and those of scripts in them, each with the text that it was read from.
func walked(l []api.Command, visit func(c api.Command)) {
	for _, c := range l {
		visit(c)
		for _, s := range scriptsOf(c.Words) {
			inner, _, f := second{s, true, true, true}.script(0, -1, 0)
			if f == nil {
				walked(inner, visit)
			}
		}
	}
}

func scriptsOf(words []api.Word) []string {
	var out []string
	var tokens func(l []api.Token)
	tokens = func(l []api.Token) {
		for _, t := range l {
			if t.Kind == api.TScript {
				out = append(out, t.Text)
			}
			tokens(t.Index)
		}
	}
	for _, w := range words {
		tokens(w.Tokens)
	}
	return out
}

func TestWalksAsPlainOnes(t *testing.T) {
	r := rand.New(rand.NewSource(2))
	for range 30000 {
		l, _, e := Script(pieces(r, 8) + "[" + pieces(r, 4) + "]")
		if e != api.OK {
			continue
		}
		n := 0
		var names, scripts []string
		walked(l, func(c api.Command) {
			n++
			if name, ok := Literal(c.Words[0]); ok && !slices.Contains(names, name) {
				names = append(names, name)
			}
		})
		for _, c := range l {
			scripts = append(scripts, scriptsOf(c.Words)...)
		}
		if Count(l) != n || !slices.Equal(Names(l), names) || !slices.Equal(Scripts(l), scripts) {
			t.Fatalf("of\n%s: %d, %q, %q, not %d, %q, %q", Show(l), Count(l), Names(l), Scripts(l), n, names, scripts)
		}
	}
}
