package traces

import (
	"iter"
	"slices"
	"strconv"

	"threadbare/api"
	"threadbare/core"
	"threadbare/vars"
)

// trace is operations and a prefix; text is that as it was written.
type trace struct {
	ops    []string
	prefix []string
	text   string
	gone   bool
}

// key is a command of a machine, with a kind of its traces.
type key struct {
	of   *core.Machine
	n    int
	kind string
}

// book has the traces of a family, those that were added last first, and what is being traced.
type book struct {
	vars     map[vars.Place][]*trace
	commands map[key][]*trace
	busy     map[vars.Place]bool
	working  map[key]bool
}

func bookOf(x *core.Machine) *book {
	return x.Traces(func() any {
		return &book{vars: map[vars.Place][]*trace{}, commands: map[key][]*trace{}, busy: map[vars.Place]bool{}, working: map[key]bool{}}
	}).(*book)
}

func install(x *core.Machine) {
	b := bookOf(x)
	x.Lay(core.Tracer{Read: b.read, Write: b.write, Unset: b.unset, Renamed: b.renamed, Gone: b.went, Forget: b.forget, Enter: b.enter, Leave: b.leave})
}

// live yields the traces of an operation that are still there when it is their turn.
func live(l []*trace, op string) iter.Seq[*trace] {
	return func(yield func(*trace) bool) {
		for _, t := range l {
			if !t.gone && slices.Contains(t.ops, op) && !yield(t) {
				return
			}
		}
	}
}

// do does the command of a trace with more words.
func (t *trace) do(x *core.Machine, words ...string) api.Outcome {
	o := core.Join(append(t.prefix[:len(t.prefix):len(t.prefix)], words...))
	if core.Bad(o) {
		return o
	}
	return x.Caught(x.Script(o.Text))
}

// failed turns an outcome that is not COk into the error of what happened.
func failed(o api.Outcome) api.Outcome {
	if !core.Bad(o) || o.Code == api.CStop {
		return o
	}
	return core.Fail("trace", o.Text)
}

// happen does the traces of a place; the first outcome that counts ends it.
func (b *book) happen(x *core.Machine, p vars.Place, l []*trace, s core.Spot, op string, counts func(api.Outcome) bool) api.Outcome {
	if b.busy[p] || len(l) == 0 {
		return api.Outcome{}
	}
	b.busy[p] = true
	defer delete(b.busy, p)
	name, index := s.Parts()
	for t := range live(l, op) {
		if o := t.do(x, name, index, op); counts(o) {
			return failed(o)
		}
	}
	return api.Outcome{}
}

func isStop(o api.Outcome) bool { return o.Code == api.CStop }

// access does the read or write traces of what a spot leads to: those of its array first.
func (b *book) access(x *core.Machine, s core.Spot, op string) api.Outcome {
	if len(b.vars) == 0 {
		return api.Outcome{}
	}
	p, e := x.Vars().Place(s.Scope, s.Word)
	if e != api.OK {
		return api.Outcome{}
	}
	if whole, element := p.Whole(); element {
		if whole.Kind() == 1 {
			return api.Outcome{} // a scalar has no elements: nothing of it is read
		}
		if o := b.happen(x, whole, b.vars[whole], s, op, core.Bad); core.Bad(o) {
			return o
		}
	}
	return b.happen(x, p, b.vars[p], s, op, core.Bad)
}

func (b *book) read(x *core.Machine, s core.Spot) api.Outcome { return b.access(x, s, "read") }

func (b *book) write(x *core.Machine, s core.Spot) api.Outcome { return b.access(x, s, "write") }

// unset does the unset traces of what a spot led to, those of its array first; then its own go, and with an array those of its elements.
func (b *book) unset(x *core.Machine, s core.Spot) api.Outcome {
	if len(b.vars) == 0 {
		return api.Outcome{}
	}
	p, e := x.Vars().Place(s.Scope, s.Word)
	if e != api.OK {
		return api.Outcome{}
	}
	if whole, element := p.Whole(); element {
		if o := b.happen(x, whole, b.vars[whole], s, "unset", isStop); core.Bad(o) {
			return o
		}
	}
	going := b.under(p)
	if o := b.happen(x, p, going[p], s, "unset", isStop); core.Bad(o) {
		return o // it ends everything: they have not gone yet
	}
	for at, l := range going {
		b.drop(at, l)
	}
	return api.Outcome{}
}

// under returns the traces of a place, and those of its elements.
func (b *book) under(p vars.Place) map[vars.Place][]*trace {
	out := map[vars.Place][]*trace{p: b.vars[p]}
	for other, l := range b.vars {
		if whole, element := other.Whole(); element && whole == p {
			out[other] = l
		}
	}
	return out
}

// drop takes traces of a place away; one that was added meanwhile is not among them, and stays.
func (b *book) drop(p vars.Place, l []*trace) {
	end(l)
	left := slices.DeleteFunc(slices.Clone(b.vars[p]), func(t *trace) bool { return t.gone })
	if len(left) == 0 {
		delete(b.vars, p)
		return
	}
	b.vars[p] = left
}

// end lets traces be gone.
func end(l []*trace) {
	for _, t := range l {
		t.gone = true
	}
}

// expects reports whether a command has traces of an operation that may happen now.
func (b *book) expects(k key, op string) bool {
	if len(b.commands) == 0 || b.working[key{of: k.of, n: k.n}] {
		return false
	}
	return slices.ContainsFunc(b.commands[k], func(t *trace) bool { return slices.Contains(t.ops, op) })
}

// told does the traces of a command.
func (b *book) told(x *core.Machine, k key, op string, counts func(api.Outcome) bool, words ...string) api.Outcome {
	if !b.expects(k, op) {
		return api.Outcome{}
	}
	mark := key{of: k.of, n: k.n}
	b.working[mark] = true
	defer delete(b.working, mark)
	for t := range live(b.commands[k], op) {
		if o := t.do(x, append(words, op)...); counts(o) {
			return o
		}
	}
	return api.Outcome{}
}

func (b *book) renamed(x *core.Machine, n int, old, new string) api.Outcome {
	return b.told(x, key{x, n, "command"}, "rename", isStop, old, new)
}

func (b *book) went(x *core.Machine, n int, old string) api.Outcome {
	k, run := key{x, n, "command"}, key{x, n, "execution"}
	end(b.commands[run])
	delete(b.commands, run)
	o := b.told(x, k, "delete", isStop, old, "")
	end(b.commands[k])
	delete(b.commands, k)
	return o
}

// forget takes the traces of a command away that goes without being told.
func (b *book) forget(x *core.Machine, n int) {
	for _, kind := range []string{"command", "execution"} {
		k := key{x, n, kind}
		end(b.commands[k])
		delete(b.commands, k)
	}
}

func (b *book) enter(x *core.Machine, n int, words []string) api.Outcome {
	k := key{x, n, "execution"}
	if !b.expects(k, "enter") {
		return api.Outcome{}
	}
	o := core.Join(words)
	if core.Bad(o) {
		return o
	}
	return b.told(x, k, "enter", core.Bad, o.Text)
}

func (b *book) leave(x *core.Machine, n int, words []string, own api.Outcome) api.Outcome {
	k := key{x, n, "execution"}
	if !b.expects(k, "leave") {
		return own
	}
	o := core.Join(words)
	if !core.Bad(o) {
		o = b.told(x, k, "leave", core.Bad, o.Text, strconv.Itoa(own.Code), own.Text)
	}
	if core.Bad(o) {
		return o
	}
	return own
}
