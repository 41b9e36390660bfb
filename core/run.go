package core

import (
	"strings"

	"threadbare/api"
	"threadbare/code"
	"threadbare/expr"
	"threadbare/list"
	"threadbare/text"
	"threadbare/value"
	"threadbare/vars"
)

// Done is the outcome of what went well.
func Done(s string) api.Outcome { return api.Outcome{Text: s} }

// Fail is the outcome of an error that is told with a detail.
func Fail(what, about string) api.Outcome {
	return api.Outcome{Code: api.CError, Text: what + ": " + text.Detail(about)}
}

// Problem is the outcome of an error that is told as it is.
func Problem(what string) api.Outcome { return api.Outcome{Code: api.CError, Text: what} }

// Truth is the outcome of yes or no.
func Truth(is bool) api.Outcome {
	if is {
		return Done("1")
	}
	return Done("0")
}

// Bad reports whether an outcome is any but COk.
func Bad(o api.Outcome) bool { return o.Code != api.COk }

// short tells long for a text that is longer than one may be.
func short(s string) api.Outcome {
	if len(s) > api.MaxText {
		return Problem("long")
	}
	return Done(s)
}

// shelf is what was made of texts, by these; it is emptied where the texts become too long together.
type shelf[T any] struct {
	made  map[string]T
	bytes int
}

const maxKept = 512 * 1024

func newShelf[T any]() *shelf[T] { return &shelf[T]{made: map[string]T{}} }

// kept returns what was made of a text before, or makes it.
func kept[T any](x *Machine, in *shelf[T], s string, make func() T) T {
	if !x.keeps {
		return make()
	}
	got, ok := in.made[s]
	if !ok {
		if in.bytes += len(s) + 64; in.bytes > maxKept {
			clear(in.made)
			in.bytes = len(s)
		}
		got = make()
		in.made[s] = got
	}
	return got
}

// Script evaluates a script where the machine is.
func (x *Machine) Script(s string) api.Outcome {
	if x.depth >= api.MaxDeep {
		return Problem("deep")
	}
	x.depth++
	defer func() { x.depth-- }()
	c := kept(x, x.scripts, s, func() *compiled {
		c, _, e := code.Script(s)
		return &compiled{c, e}
	})
	if c.e != api.OK {
		return Fail("script", s)
	}
	return x.run(c.code, false)
}

// Expression evaluates an expression where the machine is.
func (x *Machine) Expression(s string) api.Outcome {
	c := kept(x, x.exprs, s, func() *compiled {
		c, _, e := code.Expr(s)
		return &compiled{c, e}
	})
	if c.e != api.OK {
		return Fail("expr", s)
	}
	return x.run(c.code, true)
}

// Condition evaluates an expression whose result is a truth.
func (x *Machine) Condition(s string) (bool, api.Outcome) {
	o := x.Expression(s)
	if Bad(o) {
		return false, o
	}
	is, problem := expr.Truth(o.Text)
	if problem != "" {
		return false, Problem(problem)
	}
	return is, o
}

// Word evaluates tokens as those of a word. (Tokens that were read have no wrong scripts.)
func (x *Machine) Word(tokens []api.Token) api.Outcome {
	c, e := code.Word(api.Word{Tokens: tokens})
	if e != api.OK {
		return Fail("script", "")
	}
	return x.run(c, true)
}

// Concat puts words together as eval and expr do.
func Concat(words []string) api.Outcome {
	if len(words) == 1 {
		return Done(words[0])
	}
	return short(list.Concat(words))
}

// List returns the elements of a list.
func (x *Machine) List(s string) ([]string, api.Outcome) {
	if len(s) < 64 {
		l, _, e := list.Split(s)
		return l, listError(e, s)
	}
	l, e := kept(x, x.values, s, func() *value.Value { return value.New(s) }).List()
	return l, listError(e, s)
}

// Appended is the outcome of a list with more elements behind. Where the list is known to be one that was joined
// before, nothing of it is read again.
func (x *Machine) Appended(s string, more []string) api.Outcome {
	n, known := x.joined.made[s]
	if !known || !x.keeps {
		l, o := x.List(s)
		if Bad(o) {
			return o
		}
		o = Join(append(l, more...))
		if !Bad(o) {
			x.noteJoined(o.Text, len(l)+len(more))
		}
		return o
	}
	tail, e := list.Join(more)
	if e != api.OK || n+len(more) > api.MaxList {
		return Problem("long")
	}
	if s != "" && len(more) > 0 {
		s += " "
	}
	if s += tail; len(s) > api.MaxText {
		return Problem("long")
	}
	x.noteJoined(s, n+len(more))
	return Done(s)
}

func (x *Machine) noteJoined(s string, n int) {
	kept(x, x.joined, s, func() int { return n })
}

func listError(e api.Errno, s string) api.Outcome {
	switch e {
	case api.OK:
		return api.Outcome{}
	case api.ErrLimit:
		return Problem("long")
	}
	return Fail("list", s)
}

// Join is the outcome of the canonical list of elements.
func Join(l []string) api.Outcome {
	s, e := list.Join(l)
	if e != api.OK {
		return Problem("long")
	}
	return Done(s)
}

// running is code that is done: the stacks, and where it is.
type running struct {
	*Machine
	code     []api.Instr
	at       int
	texts    []string
	words    [][]string
	strict   bool // each text that is pushed is asked for its length
	finished api.Outcome
}

// instructions are what is done by their numbers; each returns whether it goes on.
type instructions [api.ITrue + 1]func(r *running, in *api.Instr) bool

func does() instructions {
	return instructions{
		api.IPush:   (*running).pushText,
		api.ILoad:   (*running).load,
		api.IElem:   (*running).element,
		api.IJoin:   (*running).join,
		api.IBegin:  (*running).begin,
		api.IAdd:    (*running).add,
		api.ISpread: (*running).spread,
		api.ICall:   (*running).call,
		api.IDrop:   (*running).drop,
		api.IOp:     (*running).operate,
		api.ITruth:  (*running).truth,
		api.IJump:   (*running).jump,
		api.IFalse:  (*running).jumpIf,
		api.ITrue:   (*running).jumpIf,
	}
}

func (x *Machine) run(c []api.Instr, strict bool) api.Outcome {
	r := &running{Machine: x, code: c, strict: strict}
	for r.at < len(c) {
		in := &c[r.at]
		r.at++
		if !x.does[in.Op](r, in) {
			return r.finished
		}
	}
	return Done(r.pop())
}

func (r *running) finish(o api.Outcome) bool {
	r.finished = o
	return false
}

func (r *running) push(s string) bool {
	if r.strict && len(s) > api.MaxText {
		return r.finish(Problem("long"))
	}
	r.texts = append(r.texts, s)
	return true
}

func (r *running) pop() string {
	s := r.texts[len(r.texts)-1]
	r.texts = r.texts[:len(r.texts)-1]
	return s
}

func (r *running) pushText(in *api.Instr) bool { return r.push(in.S) }

func (r *running) variable(word string) bool {
	s, o := r.Read(word)
	if Bad(o) {
		return r.finish(o)
	}
	return r.push(s)
}

func (r *running) load(in *api.Instr) bool { return r.variable(in.S) }

// element reads NAME(INDEX): the name stands as it was written, whatever is in it.
func (r *running) element(in *api.Instr) bool {
	return r.variable(in.S + "(" + r.pop() + ")")
}

func (r *running) join(in *api.Instr) bool {
	at := len(r.texts) - in.A
	s := strings.Join(r.texts[at:], "")
	r.texts = r.texts[:at]
	if len(s) > api.MaxText {
		return r.finish(Problem("long"))
	}
	return r.push(s)
}

func (r *running) begin(*api.Instr) bool {
	r.words = append(r.words, make([]string, 0, 4))
	return true
}

func (r *running) add(*api.Instr) bool {
	s := r.pop()
	if len(s) > api.MaxText {
		return r.finish(Problem("long"))
	}
	last := len(r.words) - 1
	r.words[last] = append(r.words[last], s)
	return true
}

func (r *running) spread(*api.Instr) bool {
	s := r.pop()
	if len(s) > api.MaxText {
		return r.finish(Problem("long"))
	}
	l, o := r.List(s)
	if Bad(o) {
		return r.finish(o)
	}
	last := len(r.words) - 1
	r.words[last] = append(r.words[last], l...)
	return true
}

func (r *running) call(*api.Instr) bool {
	last := len(r.words) - 1
	words := r.words[last]
	r.words = r.words[:last]
	o := r.Call(words)
	if Bad(o) {
		return r.finish(o)
	}
	return r.push(o.Text)
}

func (r *running) drop(*api.Instr) bool {
	r.pop()
	return true
}

func (r *running) operate(in *api.Instr) bool {
	at := len(r.texts) - in.A
	s, problem := code.Operate(in.S, r.texts[at:])
	r.texts = r.texts[:at]
	if problem != "" {
		return r.finish(Problem(problem))
	}
	return r.push(s)
}

func (r *running) truth(*api.Instr) bool {
	is, problem := expr.Truth(r.pop())
	if problem != "" {
		return r.finish(Problem(problem))
	}
	return r.push(Truth(is).Text)
}

func (r *running) jump(in *api.Instr) bool {
	r.at = in.A
	return true
}

func (r *running) jumpIf(in *api.Instr) bool {
	if r.pop() == [...]string{"0", "1"}[in.Op-api.IFalse] {
		r.at = in.A
	}
	return true
}

// Split is vars.Split.
func Split(word string) (name, index string, element bool) { return vars.Split(word) }
