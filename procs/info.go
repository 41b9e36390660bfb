package procs

import (
	"slices"
	"strconv"

	"threadbare/api"
	"threadbare/core"
	"threadbare/dict"
	"threadbare/names"
	"threadbare/parse"
	"threadbare/text"
)

// asker is what info and array are asked of.
type asker = core.Asker

// query is an asker whose methods are the sub words.
type query struct{ asker }

func asked(do func(query) api.Outcome) func(asker) api.Outcome {
	return func(a asker) api.Outcome { return do(query{a}) }
}

func infos() map[string]core.Sub[asker] {
	return map[string]core.Sub[asker]{
		"exists":   {Least: 1, Most: 1, Do: asked(query.exists)},
		"level":    {Least: 0, Most: 1, Do: asked(query.level)},
		"body":     {Least: 1, Most: 1, Do: asked(query.body)},
		"args":     {Least: 1, Most: 1, Do: asked(query.args)},
		"default":  {Least: 3, Most: 3, Do: asked(query.without)},
		"commands": {Least: 0, Most: 1, Do: asked(query.commands)},
		"procs":    {Least: 0, Most: 1, Do: asked(query.procs)},
		"vars":     {Least: 0, Most: 1, Do: asked(query.vars)},
		"locals":   {Least: 0, Most: 1, Do: asked(query.locals)},
		"globals":  {Least: 0, Most: 1, Do: asked(query.globals)},
		"complete": {Least: 1, Most: 1, Do: asked(query.complete)},
	}
}

func (q query) exists() api.Outcome {
	// in a namespace that is not there no variable is set
	s, o := q.Spot(q.Arg(0))
	return core.Truth(!core.Bad(o) && q.Vars().Kind(s.Scope, s.Word) != 0)
}

func (q query) level() api.Outcome {
	now := q.Frame().Level
	if len(q.Args()) == 0 {
		return core.Done(strconv.Itoa(now))
	}
	n, o := core.Int(q.Arg(0))
	if core.Bad(o) {
		return o
	}
	if n <= 0 {
		n += now
	}
	if n < 1 || n > now {
		return core.Fail("level", q.Arg(0))
	}
	return core.Join(q.Level(n).Words)
}

func (q query) procedure() (*Procedure, api.Outcome) {
	n := q.Find(q.Space(), q.Arg(0))
	if n == 0 {
		return nil, core.Fail("command", q.Arg(0))
	}
	p, ok := q.Data(n).(*Procedure)
	if !ok {
		return nil, core.Fail("proc", q.Arg(0))
	}
	return p, api.Outcome{}
}

func (q query) body() api.Outcome {
	p, o := q.procedure()
	if core.Bad(o) {
		return o
	}
	return core.Done(p.Body)
}

func (q query) args() api.Outcome {
	p, o := q.procedure()
	if core.Bad(o) {
		return o
	}
	return core.Join(p.Names())
}

func (q query) without() api.Outcome {
	p, o := q.procedure()
	if core.Bad(o) {
		return o
	}
	at := slices.IndexFunc(p.params, func(one param) bool { return one.name == q.Arg(1) })
	if at < 0 {
		return core.Fail("param", q.Arg(1))
	}
	if o := q.Write(q.Arg(2), p.params[at].without); core.Bad(o) {
		return o
	}
	return core.Truth(p.params[at].has)
}

// tails returns the tails of the commands in the current namespace and in :: that fit.
func (q query) tails(fits func(name string) bool) api.Outcome {
	var out []string
	for _, name := range q.Machine.Commands("*") {
		head, tail := names.Head(name), names.Tail(name)
		if (head == q.Space() || head == "::") && text.Glob(q.Pattern(0), tail, false) && fits(name) {
			out = append(out, tail)
		}
	}
	slices.Sort(out)
	return core.Join(slices.Compact(out))
}

func (q query) commands() api.Outcome { return q.tails(func(string) bool { return true }) }

func (q query) procs() api.Outcome {
	return q.tails(func(name string) bool {
		_, ok := q.Data(q.Named(name)).(*Procedure)
		return ok
	})
}

func (q query) vars() api.Outcome {
	return core.Join(q.Vars().Names(q.Frame().Scope, q.Pattern(0)))
}

func (q query) locals() api.Outcome {
	if q.Frame().Level == 0 {
		return api.Outcome{}
	}
	scope := q.Frame().Scope
	l := q.Vars().Names(scope, q.Pattern(0))
	return core.Join(slices.DeleteFunc(l, func(name string) bool { return q.Vars().Linked(scope, name) }))
}

func (q query) globals() api.Outcome { return core.Join(q.Vars().Names(0, q.Pattern(0))) }

func (q query) complete() api.Outcome { return core.Truth(parse.Complete(q.Arg(0))) }

// table is an array that is asked, at its spot.
type table struct {
	asker
	spot core.Spot
}

func onTable(do func(table) api.Outcome) func(asker) api.Outcome {
	return func(a asker) api.Outcome {
		s, o := a.Spot(a.Arg(0))
		if core.Bad(o) {
			return o
		}
		return do(table{a, s})
	}
}

func arrays() map[string]core.Sub[asker] {
	return map[string]core.Sub[asker]{
		"exists": {Least: 1, Most: 1, Do: onTable(table.exists)},
		"size":   {Least: 1, Most: 1, Do: onTable(table.size)},
		"names":  {Least: 1, Most: 2, Do: onTable(table.names)},
		"get":    {Least: 1, Most: 2, Do: onTable(table.get)},
		"set":    {Least: 2, Most: 2, Do: onTable(table.set)},
		"unset":  {Least: 1, Most: 2, Do: onTable(table.unset)},
	}
}

func (t table) kind() int { return t.Vars().Kind(t.spot.Scope, t.spot.Word) }

func (t table) exists() api.Outcome { return core.Truth(t.kind() == 2) }

// keys returns the indexes that a pattern matches; none if it is no array.
func (t table) keys(pattern string) []string {
	l, _ := t.Vars().Keys(t.spot.Scope, t.spot.Word, pattern)
	return l
}

func (t table) size() api.Outcome { return core.Done(strconv.Itoa(len(t.keys("*")))) }

func (t table) names() api.Outcome { return core.Join(t.keys(t.Pattern(1))) }

func (t table) get() api.Outcome {
	var out []string
	for _, index := range t.keys(t.Pattern(1)) {
		s := t.Element(t.spot, index)
		value, set, o := t.ReadSpot(s)
		if !core.Bad(o) && !set {
			o = core.Fail("variable", s.Used)
		}
		if core.Bad(o) {
			return o
		}
		out = append(out, index, value)
	}
	return core.Join(out)
}

func (t table) set() api.Outcome {
	pairs, e := dict.Pairs(t.Arg(1))
	if e != api.OK {
		return core.Fail("dict", t.Arg(1))
	}
	_, _, element := core.Split(t.spot.Word)
	if element || t.kind() == 1 || !t.arrayable() {
		return core.Fail("array", t.Arg(0))
	}
	if len(pairs) == 0 && t.kind() == 0 {
		t.MakeArray(t.spot)
	}
	for i := 0; i < len(pairs); i += 2 {
		if o := t.WriteSpot(t.Element(t.spot, pairs[i]), pairs[i+1]); core.Bad(o) {
			return o
		}
	}
	return api.Outcome{}
}

// arrayable reports whether a name leads to a whole variable: an element becomes no array.
func (t table) arrayable() bool {
	if !t.Vars().Linked(t.spot.Scope, t.spot.Word) {
		return true
	}
	p, _ := t.Vars().Place(t.spot.Scope, t.spot.Word)
	_, element := p.Whole()
	return !element
}

func (t table) unset() api.Outcome {
	if t.kind() != 2 {
		return api.Outcome{}
	}
	if len(t.Args()) == 1 {
		return t.UnsetSpot(t.spot)
	}
	for _, index := range t.keys(t.Arg(1)) {
		s := t.Element(t.spot, index)
		if t.Vars().Kind(s.Scope, s.Word) == 0 {
			continue // a trace was quicker
		}
		if o := t.UnsetSpot(s); core.Bad(o) {
			return o
		}
	}
	return api.Outcome{}
}
