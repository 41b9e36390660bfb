package loop

import (
	"iter"
	"maps"
	"slices"
	"strconv"

	"threadbare/api"
	"threadbare/core"
	"threadbare/inout"
	"threadbare/list"
)

// waiter is what waits to be done: a timer, or an idle script.
type waiter interface{ id() string }

type timer struct {
	name, script string
	due          int
}

type idle struct{ name, script string }

func (t *timer) id() string { return t.name }
func (i *idle) id() string  { return i.name }

// slot is where a channel's script is: which of its two.
type slot struct {
	channel  string
	writable bool
}

// queue is a machine's time, and what waits.
type queue struct {
	now, last  int
	waiting    []waiter
	scripts    map[slot]string
	done       map[slot]int // in this round, with the raw bytes that waited at the beginning
	background []string
}

func queueOf(x *core.Machine) *queue {
	if q, ok := x.Part("loop").(*queue); ok {
		return q
	}
	q := &queue{scripts: map[slot]string{}, done: map[slot]int{}}
	x.Keep("loop", q)
	return q
}

// add lets something wait; it is made with its name.
func (q *queue) add(made func(name string) waiter) string {
	q.last++
	w := made("after" + strconv.Itoa(q.last))
	q.waiting = append(q.waiting, w)
	return w.id()
}

func (q *queue) find(name string) int {
	return slices.IndexFunc(q.waiting, func(w waiter) bool { return w.id() == name })
}

func (q *queue) cancel(name string) {
	if at := q.find(name); at >= 0 {
		q.waiting = slices.Delete(slices.Clone(q.waiting), at, at+1)
	}
}

// first returns the one of several that comes before all others; of equal ones the first.
func first[T any](l []T, before func(a, b T) bool) (out T, ok bool) {
	for i, one := range l {
		if i == 0 || before(one, out) {
			out, ok = one, true
		}
	}
	return out, ok
}

// earliest returns the timer that is due earliest.
func (q *queue) earliest() (*timer, bool) {
	var l []*timer
	for _, w := range q.waiting {
		if t, ok := w.(*timer); ok {
			l = append(l, t)
		}
	}
	return first(l, func(a, b *timer) bool { return a.due < b.due })
}

// pass lets the time go on, not beyond its end.
func (q *queue) pass(ms int) { q.now = min(q.now+min(max(ms, 0), api.MaxTime), api.MaxTime) }

// event does an event: a step, then what takes it out, then its script.
func event(x *core.Machine, take func() string) api.Outcome {
	if o := x.Step(); core.Bad(o) {
		return o
	}
	script := take()
	o := x.At(x.Global(), func() api.Outcome { return x.Caught(x.Script(script)) })
	switch o.Code {
	case api.CStop:
		return o
	case api.CError:
		return failed(x, o.Text)
	}
	return api.Outcome{}
}

// failed notes an error of an event, and does the command of bgerror.
func failed(x *core.Machine, problem string) api.Outcome {
	q := queueOf(x)
	q.background = append(q.background, problem)
	prefix, e := x.Vars().Get(0, "bgerror")
	if e != api.OK {
		return api.Outcome{}
	}
	l, _, e := list.Split(prefix)
	if e != api.OK {
		return api.Outcome{}
	}
	o := x.At(x.Global(), func() api.Outcome { return x.Caught(x.CallAny("::", append(l, problem))) })
	if o.Code == api.CStop {
		return o
	}
	return api.Outcome{}
}

// ready yields the channel scripts that are to be done, in their order, with the raw bytes that wait.
func (q *queue) ready(x *core.Machine) iter.Seq2[slot, int] {
	all := slices.SortedFunc(maps.Keys(q.scripts), func(a, b slot) int {
		switch {
		case a.channel < b.channel:
			return -1
		case a.channel > b.channel:
			return 1
		case b.writable:
			return -1
		}
		return 1
	})
	return func(yield func(slot, int) bool) {
		for _, s := range all {
			state := inout.StateOf(x, s.channel)
			if !state.There {
				delete(q.scripts, s)
				continue
			}
			waited, done := q.done[s]
			if !s.writable && !state.Ready || done && (s.writable || state.File || waited == state.Waiting) {
				continue
			}
			if !yield(s, state.Waiting) {
				return
			}
		}
	}
}

// turn does one turn: whether something was found, and how it ended (COk, or CStop).
func turn(x *core.Machine) (bool, api.Outcome) {
	q := queueOf(x)
	if t, ok := q.earliest(); ok && t.due <= q.now {
		return true, event(x, func() string {
			q.cancel(t.name)
			return t.script
		})
	}
	for s, waiting := range q.ready(x) {
		return true, event(x, func() string {
			q.done[s] = waiting
			return q.scripts[s]
		})
	}
	clear(q.done)
	return idleTurn(x)
}

// idleTurn does all idle scripts that are there at its beginning.
func idleTurn(x *core.Machine) (bool, api.Outcome) {
	q := queueOf(x)
	found := false
	for _, w := range q.waiting {
		switch i := w.(type) {
		case *idle:
			if q.find(i.name) < 0 {
				continue // cancelled meanwhile
			}
			found = true
			o := event(x, func() string {
				q.cancel(i.name)
				return i.script
			})
			if core.Bad(o) {
				return found, o
			}
		}
	}
	return found, api.Outcome{}
}

// settle does turns until the queue is quiet.
func settle(x *core.Machine, one func(x *core.Machine) (bool, api.Outcome)) api.Outcome {
	for {
		found, o := one(x)
		if core.Bad(o) || !found {
			return o
		}
	}
}
