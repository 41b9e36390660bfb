package nest

import (
	"strconv"
	"strings"

	"threadbare/api"
	"threadbare/core"
	"threadbare/names"
	"threadbare/procs"
)

// unsafe is the error of what a safe machine does to itself.
func (a asker) unsafe(m *core.Machine) api.Outcome {
	if m == a.Machine && IsSafe(m) {
		return core.Fail("safe", a.Words[1])
	}
	return api.Outcome{}
}

func (a asker) hide(m *core.Machine) api.Outcome {
	if o := a.unsafe(m); core.Bad(o) {
		return o
	}
	hidden := names.Tail(a.Arg(1))
	if len(a.Args()) == 3 {
		hidden = a.Arg(2)
	}
	switch m.Hide(names.Canonical("::", a.Arg(1)), hidden) {
	case api.OK:
		return api.Outcome{}
	case api.ErrNone:
		return core.Fail("command", a.Arg(1))
	}
	return core.Fail("exists", hidden)
}

func (a asker) expose(m *core.Machine) api.Outcome {
	if o := a.unsafe(m); core.Bad(o) {
		return o
	}
	word := a.Arg(1)
	if len(a.Args()) == 3 {
		word = a.Arg(2)
	}
	if m.FindHidden(a.Arg(1)) == 0 {
		return core.Fail("command", a.Arg(1))
	}
	name := names.Canonical("::", word)
	if o := placed(m, name); core.Bad(o) {
		return o
	}
	if m.Expose(a.Arg(1), name) != api.OK {
		return core.Fail("exists", word)
	}
	return api.Outcome{}
}

func (a asker) invoke(m *core.Machine) api.Outcome {
	if o := a.unsafe(m); core.Bad(o) {
		return o
	}
	n := m.FindHidden(a.Arg(1))
	if n == 0 {
		return core.Fail("command", a.Arg(1))
	}
	return a.Enter(m, func() api.Outcome {
		if o := m.Step(); core.Bad(o) {
			return o
		}
		return m.Do(n, a.Args()[1:])
	})
}

func (a asker) limit(m *core.Machine) api.Outcome {
	if o := a.unsafe(m); core.Bad(o) {
		return o
	}
	if len(a.Args()) == 1 {
		n, limited := m.Limit()
		if !limited {
			return api.Outcome{}
		}
		return core.Done(strconv.Itoa(n))
	}
	if a.Arg(1) == "" {
		m.SetLimit(0, false)
		return api.Outcome{}
	}
	n, o := core.Int(a.Arg(1))
	if core.Bad(o) {
		return o
	}
	if n < 0 || n >= core.Far {
		return core.Fail("range", a.Arg(1))
	}
	m.SetLimit(n, true)
	return api.Outcome{}
}

func (a asker) share(m *core.Machine) api.Outcome {
	s, o := m.SpotAt(m.Global(), a.Arg(1))
	if core.Bad(o) {
		return o
	}
	target, o := a.machine(a.Arg(2))
	if core.Bad(o) {
		return o
	}
	if strings.Contains(a.Arg(3), "::") {
		return core.Fail("name", a.Arg(3))
	}
	e := target.Vars().LinkTo(0, a.Arg(3), m.Vars(), s.Scope, s.Word)
	return procs.LinkError(e, a.Arg(3), a.Arg(1))
}

func (a asker) transfer(m *core.Machine) api.Outcome {
	name := names.Canonical("::", a.Arg(1))
	n := m.Named(name)
	if n == 0 {
		return core.Fail("command", a.Arg(1))
	}
	p, ok := m.Data(n).(*procs.Procedure)
	if !ok {
		return core.Fail("proc", a.Arg(1))
	}
	target, o := a.machine(a.Arg(2))
	if core.Bad(o) {
		return o
	}
	if o := placed(target, name); core.Bad(o) {
		return o
	}
	return a.in(target, func() api.Outcome { return procs.Make(target, name, p) })
}
