package parse

import (
	"strings"

	"threadbare/api"
	"threadbare/text"
)

// stop is what the reader panics with: reading can't go on.
type stop struct {
	at    int
	e     api.Errno
	noEnd bool
}

// reader reads a script from at on; inside tells whether a bracket ends what is read.
type reader struct {
	s                    string
	at, depth            int
	inside               bool
	slashes, vars, tasks bool
	words                map[byte]func(*reader) []api.Token
}

func newReader(s string) *reader {
	return &reader{s: s, slashes: true, vars: true, tasks: true, words: map[byte]func(*reader) []api.Token{
		'{': (*reader).braced,
		'"': (*reader).quoted,
	}}
}

// caught turns the panic of a reader into results.
func caught(panicked any, at *int, e *api.Errno, noEnd *bool) {
	switch p := panicked.(type) {
	case nil:
	case stop:
		*at, *e, *noEnd = p.at, p.e, p.noEnd
	default:
		panic(p)
	}
}

func (r *reader) wrong(at int, noEnd bool) { panic(stop{at, api.ErrSyntax, noEnd}) }

// enter begins a bracket or an index.
func (r *reader) enter() {
	if r.depth++; r.depth > api.MaxDeep {
		panic(stop{0, api.ErrLimit, false})
	}
}

func (r *reader) more() bool { return r.at < len(r.s) }

// lineEscape reports whether an escaped line feed stands at an index.
func (r *reader) lineEscape(i int) bool { return strings.HasPrefix(r.s[i:], "\\\n") }

func (r *reader) blanks() {
	for r.more() {
		c := r.s[r.at]
		switch {
		case c != '\n' && text.White(c):
			r.at++
		case c == '\\' && r.lineEscape(r.at):
			_, n := text.Unescape(r.s[r.at:])
			r.at += n
		default:
			return
		}
	}
}

// commandEnds reports whether a command ends here.
func (r *reader) commandEnds() bool {
	return !r.more() || r.s[r.at] == '\n' || r.s[r.at] == ';' || r.inside && r.s[r.at] == ']'
}

func (r *reader) wordEnds() bool {
	return r.commandEnds() || text.White(r.s[r.at]) || r.s[r.at] == '\\' && r.lineEscape(r.at)
}

// script reads commands up to the end, or up to the bracket that closes the one at open.
func (r *reader) script(open int) []api.Command {
	var l []api.Command
	for {
		r.blanks()
		switch {
		case !r.more():
			if r.inside {
				r.wrong(open, true)
			}
			return l
		case r.inside && r.s[r.at] == ']':
			return l
		case r.commandEnds():
			r.at++
		case r.s[r.at] == '#':
			r.comment()
		default:
			l = append(l, r.command())
		}
	}
}

func (r *reader) comment() {
	for ; r.more() && r.s[r.at] != '\n'; r.at++ {
		if r.s[r.at] == '\\' && r.at+1 < len(r.s) {
			r.at++
		}
	}
}

func (r *reader) command() api.Command {
	c := api.Command{At: r.at}
	for !r.commandEnds() {
		c.Words = append(c.Words, r.word())
		r.blanks()
	}
	return c
}

func (r *reader) word() api.Word {
	var w api.Word
	for strings.HasPrefix(r.s[r.at:], "{*}") {
		r.at += 3
		if r.wordEnds() {
			w.Tokens = []api.Token{{Kind: api.TText, Text: "*"}}
			return w
		}
		w.Spread = true
	}
	read, ok := r.words[r.s[r.at]]
	if !ok {
		read = (*reader).bare
	}
	w.Tokens = read(r)
	if ok && !r.wordEnds() {
		r.wrong(r.at, false)
	}
	return w
}

func (r *reader) bare() []api.Token { return r.parts(r.wordEnds).word() }

func (r *reader) quoted() []api.Token {
	open := r.at
	r.at++
	l := r.parts(func() bool { return r.more() && r.s[r.at] == '"' })
	if !r.more() {
		r.wrong(open, true)
	}
	r.at++
	return l.word()
}

func (r *reader) braced() []api.Token {
	open, level := r.at, 0
	var out []byte
	for ; r.more(); r.at++ {
		c := r.s[r.at]
		switch {
		case c == '\\' && r.lineEscape(r.at):
			_, n := text.Unescape(r.s[r.at:])
			r.at += n - 1
			c = ' '
		case c == '\\' && r.at+1 < len(r.s):
			out = append(out, c)
			r.at++
			c = r.s[r.at]
		case c == '{':
			if level++; level == 1 {
				continue
			}
		case c == '}':
			if level--; level == 0 {
				r.at++
				return []api.Token{{Kind: api.TText, Text: string(out)}}
			}
		}
		out = append(out, c)
	}
	r.wrong(open, true)
	return nil
}

// tokens puts texts that follow each other together.
type tokens struct {
	list    []api.Token
	pending []byte
}

// add puts texts behind the others, as one.
func (t *tokens) add(texts ...string) {
	for _, s := range texts {
		t.pending = append(t.pending, s...)
	}
}

func (t *tokens) close(more ...api.Token) []api.Token {
	if len(t.pending) > 0 {
		t.list = append(t.list, api.Token{Kind: api.TText, Text: string(t.pending)})
		t.pending = t.pending[:0]
	}
	t.list = append(t.list, more...)
	return t.list
}

// word returns the tokens of a word, which has at least one.
func (t *tokens) word() []api.Token {
	if l := t.close(); len(l) > 0 {
		return l
	}
	return []api.Token{{Kind: api.TText}}
}

// parts reads up to where it ends, or to the end of the script.
func (r *reader) parts(ends func() bool) *tokens {
	t := &tokens{}
	for r.more() && !ends() {
		c := r.s[r.at]
		switch {
		case c == '\\' && r.slashes:
			is, n := text.Unescape(r.s[r.at:])
			t.add(is)
			r.at += n
			continue
		case c == '[' && r.tasks:
			t.close(r.task())
			continue
		case c == '$' && r.vars:
			if v, ok := r.variable(); ok {
				t.close(v)
				continue
			}
		}
		t.add(r.s[r.at : r.at+1])
		r.at++
	}
	return t
}

// task reads a script in brackets.
func (r *reader) task() api.Token {
	open, before := r.at, *r
	r.enter()
	r.inside, r.slashes, r.vars, r.tasks = true, true, true, true
	r.at++
	r.script(open)
	end := r.at
	*r = before
	r.at = end + 1
	return api.Token{Kind: api.TScript, Text: r.s[open+1 : end]}
}

// variable reads the variable at a dollar; false, and nothing is read, if none begins there.
func (r *reader) variable() (api.Token, bool) {
	begin := r.at
	if strings.HasPrefix(r.s[begin:], "${") {
		n := strings.IndexByte(r.s[begin:], '}')
		if n < 0 {
			r.wrong(begin, true)
		}
		r.at += n + 1
		return api.Token{Kind: api.TVar, Text: r.s[begin+2 : begin+n]}, true
	}
	n := nameLength(r.s[begin+1:])
	if n == 0 {
		return api.Token{}, false
	}
	t := api.Token{Kind: api.TVar, Text: r.s[begin+1 : begin+1+n]}
	r.at += n + 1
	if r.more() && r.s[r.at] == '(' {
		t.HasIndex, t.Index = true, r.index()
	}
	return t, true
}

func (r *reader) index() []api.Token {
	open, before := r.at, r.depth
	r.enter()
	r.at++
	l := r.parts(func() bool { return r.s[r.at] == ')' })
	if !r.more() {
		r.wrong(open, true)
	}
	r.at++
	r.depth = before
	return l.word()
}

func nameLength(s string) int {
	n := 0
	for n < len(s) {
		c := s[n]
		switch {
		case c >= 'a' && c <= 'z' || c >= 'A' && c <= 'Z' || c >= '0' && c <= '9' || c == '_':
			n++
		case strings.HasPrefix(s[n:], "::"):
			for n < len(s) && s[n] == ':' {
				n++
			}
		default:
			return n
		}
	}
	return n
}
