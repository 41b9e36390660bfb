package loop

import (
	"iter"
	"maps"
	"slices"
	"strconv"

	"threadbare/api"
	"threadbare/core"
	"threadbare/inout"
	"threadbare/list"
)

// waiter is what waits to be done: a timer, or an idle script.
type waiter interface{ id() string }

// entry is what all that waits has: a number, by which it was made, and a script.
type entry struct {
	number int
	script string
}

type timer struct {
	entry
	due int
}

type idle struct{ entry }

func (e entry) id() string { return "after" + strconv.Itoa(e.number) }

// slot is where a channel's script is: which of its two.
type slot struct {
	channel  string
	writable bool
}

// queue is a machine's time, and what waits: timers by the times at which they are due, idle scripts as they were made.
type queue struct {
	now, last  int
	names      map[string]waiter
	timers     []*timer
	idles      []*idle
	scripts    map[slot]string
	done       map[slot]int // in this round, with the raw bytes that waited at the beginning
	background []string
}

func queueOf(x *core.Machine) *queue {
	if q, ok := x.Part("loop").(*queue); ok {
		return q
	}
	q := &queue{names: map[string]waiter{}, scripts: map[slot]string{}, done: map[slot]int{}}
	x.Keep("loop", q)
	return q
}

// add lets something wait; it is made with what all of that has.
func (q *queue) add(script string, made func(e entry) waiter) string {
	q.last++
	w := made(entry{q.last, script})
	switch w := w.(type) {
	case *timer:
		q.timers = slices.Insert(q.timers, place(q.timers, w, sooner), w)
	case *idle:
		q.idles = append(q.idles, w)
	}
	q.names[w.id()] = w
	return w.id()
}

// cancel takes something away, if it is there.
func (q *queue) cancel(name string) {
	switch w := q.names[name].(type) {
	case *timer:
		at := place(q.timers, w, sooner)
		q.timers = without(q.timers, at)
	case *idle:
		at := place(q.idles, w, func(a, b *idle) bool { return a.number < b.number })
		q.idles = without(q.idles, at)
	}
	delete(q.names, name)
}

// without returns a list without one; the first one costs nothing.
func without[T any](l []T, at int) []T {
	if at == 0 {
		return l[1:]
	}
	return slices.Delete(l, at, at+1)
}

// all returns the names of all that waits, in the order in which it was made.
func (q *queue) all() []string {
	var numbers []int
	for _, t := range q.timers {
		numbers = append(numbers, t.number)
	}
	for _, i := range q.idles {
		numbers = append(numbers, i.number)
	}
	slices.Sort(numbers)
	out := make([]string, len(numbers))
	for i, n := range numbers {
		out[i] = entry{number: n}.id()
	}
	return out
}

// place returns where one stands, or would stand, in an ordered list: behind all that come before it.
func place[T any](l []T, one T, before func(a, b T) bool) int {
	from, to := 0, len(l)
	for from < to {
		if mid := (from + to) / 2; before(l[mid], one) {
			from = mid + 1
		} else {
			to = mid
		}
	}
	return from
}

// sooner is the order of timers: by time, those of one time as they were made.
func sooner(a, b *timer) bool { return a.due < b.due || a.due == b.due && a.number < b.number }

// earliest returns the timer that is due earliest.
func (q *queue) earliest() (*timer, bool) {
	if len(q.timers) == 0 {
		return nil, false
	}
	return q.timers[0], true
}

// pass lets the time go on, not beyond its end.
func (q *queue) pass(ms int) { q.now = min(q.now+min(max(ms, 0), api.MaxTime), api.MaxTime) }

// event does an event: a step, then what takes it out, then its script. Without a step it is not done.
func event(x *core.Machine, take func() string) (bool, api.Outcome) {
	if o := x.Step(); core.Bad(o) {
		return false, o
	}
	script := take()
	o := x.At(x.Global(), func() api.Outcome { return x.Caught(x.Script(script)) })
	switch o.Code {
	case api.CStop:
		return true, o
	case api.CError:
		return true, failed(x, o.Text)
	}
	return true, api.Outcome{}
}

// failed notes an error of an event, and does the command of bgerror.
func failed(x *core.Machine, problem string) api.Outcome {
	q := queueOf(x)
	q.background = append(q.background, problem)
	prefix, e := x.Vars().Get(0, "bgerror")
	if e != api.OK {
		return api.Outcome{}
	}
	l, _, e := list.Split(prefix)
	if e != api.OK {
		return api.Outcome{}
	}
	o := x.At(x.Global(), func() api.Outcome { return x.Caught(x.CallAny("::", append(l, problem))) })
	if o.Code == api.CStop {
		return o
	}
	return api.Outcome{}
}

// ready yields the channel scripts that are to be done, in their order, with the raw bytes that wait.
func (q *queue) ready(x *core.Machine) iter.Seq2[slot, int] {
	all := slices.SortedFunc(maps.Keys(q.scripts), func(a, b slot) int {
		switch {
		case a.channel < b.channel:
			return -1
		case a.channel > b.channel:
			return 1
		case b.writable:
			return -1
		}
		return 1
	})
	return func(yield func(slot, int) bool) {
		for _, s := range all {
			state := inout.StateOf(x, s.channel)
			if !state.There {
				delete(q.scripts, s)
				continue
			}
			waited, done := q.done[s]
			if !s.writable && !state.Ready || done && (s.writable || state.File || waited == state.Waiting) {
				continue
			}
			if !yield(s, state.Waiting) {
				return
			}
		}
	}
}

// turn does one turn: whether something was done, and how it ended (COk, or CStop).
func turn(x *core.Machine) (bool, api.Outcome) {
	q := queueOf(x)
	if t, ok := q.earliest(); ok && t.due <= q.now {
		return event(x, func() string {
			q.cancel(t.id())
			return t.script
		})
	}
	for s, waiting := range q.ready(x) {
		return event(x, func() string {
			q.done[s] = waiting
			return q.scripts[s]
		})
	}
	clear(q.done)
	return idleTurn(x)
}

// idleTurn does all idle scripts that are there at its beginning.
func idleTurn(x *core.Machine) (bool, api.Outcome) {
	q := queueOf(x)
	found := false
	for _, i := range slices.Clone(q.idles) {
		if q.names[i.id()] == nil {
			continue // cancelled meanwhile
		}
		done, o := event(x, func() string {
			q.cancel(i.id())
			return i.script
		})
		found = found || done
		if core.Bad(o) {
			return found, o
		}
	}
	return found, api.Outcome{}
}

// settle does turns until the queue is quiet.
func settle(x *core.Machine, one func(x *core.Machine) (bool, api.Outcome)) api.Outcome {
	for {
		found, o := one(x)
		if core.Bad(o) || !found {
			return o
		}
	}
}
