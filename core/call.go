package core

import (
	"threadbare/api"
	"threadbare/list"
	"threadbare/names"
)

// Tracer is what is told when something happens; a nil function is not told.
type Tracer struct {
	Read    func(x *Machine, s Spot) api.Outcome
	Write   func(x *Machine, s Spot) api.Outcome
	Unset   func(x *Machine, s Spot) api.Outcome
	Renamed func(x *Machine, n int, old, new string) api.Outcome
	Gone    func(x *Machine, n int, old string) api.Outcome
	Forget  func(x *Machine, n int)
	Enter   func(x *Machine, n int, words []string) api.Outcome
	Leave   func(x *Machine, n int, words []string, o api.Outcome) api.Outcome
}

// Lay lays a tracer down in the machine.
func (x *Machine) Lay(t Tracer) { x.tracer = t }

// Traces returns what the family keeps for its tracers; it is made once.
func (x *Machine) Traces(make func() any) any {
	if x.traces == nil {
		x.traces = make()
	}
	return x.traces
}

// Step takes a step: its outcome is not COk if none is left.
func (x *Machine) Step() api.Outcome {
	if x.left == 0 {
		x.stop = nil
		return api.Outcome{Code: api.CStop, Text: "steps"}
	}
	for m := x; m != nil; m = m.maker {
		if m.limited && m.limit == 0 {
			return x.halt(m, "limit")
		}
	}
	x.left--
	for m := x; m != nil; m = m.maker {
		if m.limited {
			m.limit--
		}
	}
	return api.Outcome{}
}

// halt ends the script of a machine; behind it stands the error.
func (x *Machine) halt(m *Machine, why string) api.Outcome {
	x.stop, x.why = m, why
	return api.Outcome{Code: api.CStop, Text: why}
}

// Limit returns how many steps the machine may still take, and whether that is limited.
func (x *Machine) Limit() (int, bool) { return x.limit, x.limited }

// SetLimit limits the steps, or not.
func (x *Machine) SetLimit(n int, limited bool) { x.limit, x.limited = n, limited }

// Maker returns the machine that made this one; nil for the first one.
func (x *Machine) Maker() *Machine { return x.maker }

// Drop lets a machine be deleted: a script that it evaluates ends.
func (x *Machine) Drop() { x.deleted = true }

// within reports whether a machine is another one, or below it.
func (x *Machine) within(m *Machine) bool {
	for ; x != nil; x = x.maker {
		if x == m {
			return true
		}
	}
	return false
}

// ended returns the outermost machine around this one that was deleted.
func (x *Machine) ended() *Machine {
	var out *Machine
	for m := x; m != nil; m = m.maker {
		if m.deleted {
			out = m
		}
	}
	return out
}

// Enter does something in a machine, in its global scope, as another one (or nobody) asks for.
func (x *Machine) Enter(m *Machine, do func() api.Outcome) api.Outcome {
	o := m.At(m.global, do)
	if o.Code == api.CReturn {
		o.Then = m.settle(o.Then, &o.Text)
	}
	if o.Code == api.CStop && m.stop != nil && !x.within(m.stop) {
		o = Problem(m.why)
		m.stop = nil
	}
	return o
}

// Tail is a command that is to be done when a procedure has ended.
type Tail struct {
	Words []string
	Space string
}

const firstTail = 100

// Later returns the outcome that lets a command be done when the procedure has ended.
func (x *Machine) Later(words []string) api.Outcome {
	x.lastTail++
	x.tails[firstTail+x.lastTail] = Tail{words, x.frame.Space}
	return api.Outcome{Code: api.CReturn, Then: firstTail + x.lastTail}
}

// Tail returns the command that an outcome asks for.
func (x *Machine) Tail(o api.Outcome) (Tail, bool) {
	if o.Code != api.CReturn {
		return Tail{}, false
	}
	t, ok := x.tails[o.Then]
	delete(x.tails, o.Then)
	return t, ok
}

// settle forgets a command that is not done later: the outcome is a plain one.
func (x *Machine) settle(then int, text *string) int {
	if then < firstTail {
		return then
	}
	delete(x.tails, then)
	*text = ""
	return 0
}

// Caught returns the code and the text that catch tells of an outcome.
func (x *Machine) Caught(o api.Outcome) api.Outcome {
	if o.Code == api.CReturn {
		o.Then = x.settle(o.Then, &o.Text)
	}
	return o
}

// Frame returns where the machine is.
func (x *Machine) Frame() *Frame { return x.frame }

// Global returns the frame of the level 0.
func (x *Machine) Global() *Frame { return x.global }

// Space returns the current namespace.
func (x *Machine) Space() string { return x.frame.Space }

// At does something in another frame.
func (x *Machine) At(f *Frame, do func() api.Outcome) api.Outcome {
	before := x.frame
	x.frame = f
	defer func() { x.frame = before }()
	return do()
}

// Deeper does something a level more.
func (x *Machine) Deeper(scope int, space string, words []string, do func() api.Outcome) api.Outcome {
	return x.At(&Frame{Scope: scope, Space: space, Level: x.frame.Level + 1, Up: x.frame, Words: words}, do)
}

// Level returns the frame of a level from here; nil if there is none.
func (x *Machine) Level(n int) *Frame {
	f := x.frame
	for f != nil && f.Level != n {
		f = f.Up
	}
	return f
}

// Find returns the number of the command that a word means in a namespace; 0 if there is none.
func (x *Machine) Find(space, word string) int {
	if now := x.table.Epoch() + x.changes; now != x.epoch {
		clear(x.known)
		x.epoch = now
	}
	key := found{space, word}
	if n, ok := x.known[key]; ok {
		return n
	}
	candidates, e := x.tree.Candidates(space, word)
	if e != api.OK {
		// the namespace is gone
		candidates = []string{names.Canonical("::", word)}
	}
	n := 0
	for i := 0; i < len(candidates) && n == 0; i++ {
		n = x.table.Find(candidates[i])
	}
	if x.keeps {
		x.known[key] = n
	}
	return n
}

// Call does a command: a step is taken, and the first word found in the current namespace.
func (x *Machine) Call(words []string) api.Outcome { return x.CallIn(x.frame.Space, words) }

// CallIn is Call with the first word found in a namespace.
func (x *Machine) CallIn(space string, words []string) api.Outcome {
	if len(words) == 0 {
		return api.Outcome{}
	}
	if len(words) > api.MaxList {
		return Problem("long")
	}
	return x.CallAny(space, words)
}

// CallAny is CallIn of at least one word, however many there are.
func (x *Machine) CallAny(space string, words []string) api.Outcome {
	if o := x.Step(); Bad(o) {
		return o
	}
	n := x.Find(space, words[0])
	if n == 0 {
		return x.unknown(words)
	}
	return x.Do(n, words)
}

// Nested does something that counts as a script.
func (x *Machine) Nested(do func() api.Outcome) api.Outcome {
	if x.depth >= api.MaxDeep {
		return Problem("deep")
	}
	x.depth++
	defer func() { x.depth-- }()
	return do()
}

// unknown does what is to be done where a first word names no command.
func (x *Machine) unknown(words []string) api.Outcome {
	for _, space := range []string{x.frame.Space, "::"} {
		s, _ := x.tree.Unknown(space)
		if s == "" {
			continue
		}
		l, _, _ := list.Split(s)
		words = append(l, words...)
		if len(words) > api.MaxList {
			return Problem("long")
		}
		if o := x.Step(); Bad(o) {
			return o
		}
		n := x.Find(x.frame.Space, words[0])
		if n == 0 {
			break
		}
		return x.Do(n, words)
	}
	return Fail("command", words[0])
}

// Do does the command of a number, whatever it is called.
func (x *Machine) Do(n int, words []string) api.Outcome {
	if x.tracer.Enter != nil {
		if o := x.tracer.Enter(x, n, words); Bad(o) {
			return o
		}
	}
	origin, _ := x.table.Origin(n)
	c := x.commands[origin]
	if c == nil {
		return Fail("command", words[0])
	}
	o := c.do(x, words)
	if o.Code == api.COk && len(o.Text) > api.MaxText {
		o = Problem("long")
	}
	if m := x.ended(); m != nil && o.Code != api.CStop {
		o = x.halt(m, "deleted")
	}
	if x.tracer.Leave != nil && o.Code != api.CStop {
		o = x.tracer.Leave(x, n, words, o)
	}
	return o
}

// Wrong is the error of a wrong number of words.
func Wrong(words []string) api.Outcome { return Fail("words", words[0]) }

// Count reports whether there are from least to most words behind the first one (most below 0: any number).
func Count(words []string, least, most int) bool {
	n := len(words) - 1
	return n >= least && (most < 0 || n <= most)
}

// Counted is a command that takes from least to most words behind its name.
func Counted(least, most int, do Do) Do {
	return func(x *Machine, words []string) api.Outcome {
		if !Count(words, least, most) {
			return Wrong(words)
		}
		return do(x, words)
	}
}
