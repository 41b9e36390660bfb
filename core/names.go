package core

import (
	"strconv"

	"threadbare/api"
	"threadbare/names"
	"threadbare/vars"
)

// Spot is where a variable's word leads to; Used is the word as it was used. Of an element that was found by its
// array, Array is how that was called, and Index its own index.
type Spot struct {
	Scope   int
	Word    string
	Used    string
	Array   string
	Index   string
	Element bool
}

// Parts returns the name of the variable, or of the array, as it was used, and the index.
func (s Spot) Parts() (name, index string) {
	if s.Element {
		return s.Array, s.Index
	}
	name, index, _ = vars.Split(s.Used)
	return name, index
}

// Tree returns the namespaces; who changes them says so by Changed.
func (x *Machine) Tree() *names.Tree { return x.tree }

// Changed says that names may mean other commands now.
func (x *Machine) Changed() { x.changes++ }

// Vars returns the variables.
func (x *Machine) Vars() *vars.Space { return x.vars }

// Room returns the scope of a namespace.
func (x *Machine) Room(path string) int {
	if path == "::" {
		return 0
	}
	n, ok := x.rooms[path]
	if !ok {
		// a namespace that comes again begins with a room of its own
		x.lastRoom++
		n = x.vars.Room(path + " " + strconv.Itoa(x.lastRoom))
		x.rooms[path] = n
	}
	return n
}

// Leave forgets the room of a namespace that is gone.
func (x *Machine) Leave(path string) { delete(x.rooms, path) }

// HasRoom reports whether a namespace has a room already.
func (x *Machine) HasRoom(path string) bool {
	_, ok := x.rooms[path]
	return ok || path == "::"
}

// Spot returns where a variable's word leads to from here.
func (x *Machine) Spot(word string) (Spot, api.Outcome) { return x.SpotAt(x.frame, word) }

// SpotAt returns where a variable's word leads to from a frame.
func (x *Machine) SpotAt(f *Frame, word string) (Spot, api.Outcome) {
	if plain(word) {
		return Spot{Scope: f.Scope, Word: word, Used: word}, api.Outcome{}
	}
	name, _, _ := vars.Split(word)
	path := name
	if !names.Absolute(path) {
		path = f.Space + "::" + path
	}
	head, tail := names.Head(path), names.Tail(path)
	if !x.tree.Exists(head) {
		return Spot{}, Fail("namespace", head)
	}
	return Spot{Scope: x.Room(head), Word: tail + word[len(name):], Used: word}, api.Outcome{}
}

func variableError(e api.Errno, word string) api.Outcome {
	switch e {
	case api.OK:
		return api.Outcome{}
	case api.ErrKind:
		return Fail("array", word)
	}
	return Fail("variable", word)
}

// ReadSpot returns the value of a variable, and whether it is set; its traces are done before.
func (x *Machine) ReadSpot(s Spot) (value string, set bool, o api.Outcome) {
	if x.tracer.Read != nil {
		if o := x.tracer.Read(x, s); Bad(o) {
			return "", false, o
		}
	}
	value, e := x.vars.Get(s.Scope, s.Word)
	if e == api.ErrNone {
		return "", false, api.Outcome{}
	}
	return value, e == api.OK, variableError(e, s.Used)
}

// Read returns the value of a variable that must be set.
func (x *Machine) Read(word string) (string, api.Outcome) {
	s, o := x.Spot(word)
	if Bad(o) {
		return "", o
	}
	value, set, o := x.ReadSpot(s)
	if !Bad(o) && !set {
		o = Fail("variable", word)
	}
	return value, o
}

// ReadOr returns the value of a variable, or what it is while it is not set.
func (x *Machine) ReadOr(word, without string) (string, api.Outcome) {
	s, o := x.Spot(word)
	if Bad(o) {
		return "", o
	}
	value, set, o := x.ReadSpot(s)
	if !set {
		value = without
	}
	return value, o
}

// Write sets a variable; its outcome is the value behind the traces.
func (x *Machine) Write(word, value string) api.Outcome {
	s, o := x.Spot(word)
	if Bad(o) {
		return o
	}
	return x.WriteSpot(s, value)
}

// WriteSpot sets the variable of a spot.
func (x *Machine) WriteSpot(s Spot, value string) api.Outcome {
	x.noteWrite(s)
	if e := x.vars.Set(s.Scope, s.Word, value); e != api.OK {
		return variableError(e, s.Used)
	}
	if x.tracer.Write == nil {
		return Done(value)
	}
	if o := x.tracer.Write(x, s); Bad(o) {
		return o
	}
	now, _ := x.vars.Get(s.Scope, s.Word)
	return Done(now)
}

// Unset unsets a variable.
func (x *Machine) Unset(word string) api.Outcome {
	s, o := x.Spot(word)
	if Bad(o) {
		return o
	}
	return x.UnsetSpot(s)
}

// UnsetSpot unsets the variable of a spot.
func (x *Machine) UnsetSpot(s Spot) api.Outcome {
	told := x.noteUnset(s)
	if e := x.vars.Unset(s.Scope, s.Word); e != api.OK {
		return variableError(e, s.Used)
	}
	told()
	if x.tracer.Unset == nil {
		return api.Outcome{}
	}
	return x.tracer.Unset(x, s)
}

// Watch notes changes of what a global word means, until it is told to end.
func (x *Machine) Watch(p vars.Place) (changed func() bool, end func()) {
	before, was := x.watched[p]
	x.watched[p] = false
	return func() bool { return x.watched[p] }, func() {
		// one that waits outside has been told as well
		now := x.watched[p]
		delete(x.watched, p)
		if was {
			x.watched[p] = before || now
		}
	}
}

func (x *Machine) noteWrite(s Spot) {
	if len(x.watched) == 0 {
		return
	}
	p, e := x.vars.Place(s.Scope, s.Word)
	if e != api.OK {
		return
	}
	whole, element := p.Whole()
	if _, ok := x.watched[p]; ok && p.Settable() {
		x.watched[p] = true
	}
	if _, ok := x.watched[whole]; ok && element && whole.Kind() == 0 {
		x.watched[whole] = true
	}
}

// noteUnset finds what is unset with a spot: what is watched of that is told behind it.
func (x *Machine) noteUnset(s Spot) (told func()) {
	var gone []vars.Place
	if len(x.watched) > 0 {
		p, _ := x.vars.Place(s.Scope, s.Word)
		for other := range x.watched {
			whole, _ := other.Whole()
			if other == p || whole == p && other.Kind() != 0 {
				gone = append(gone, other)
			}
		}
	}
	return func() {
		for _, p := range gone {
			x.watched[p] = true
		}
	}
}

// Rename gives a command another name.
func (x *Machine) Rename(old, new string) (api.Errno, api.Outcome) {
	n := x.table.Find(old)
	if e := x.table.Rename(old, new); e != api.OK || x.tracer.Renamed == nil {
		return e, api.Outcome{}
	}
	return api.OK, x.tracer.Renamed(x, n, old, new)
}

// goner is a command that goes, with the name that it had.
type goner struct {
	number int
	name   string
}

// goners returns a command and its imports, each before its own.
func (x *Machine) goners(n int) []goner {
	name, _, there := x.table.Name(n)
	if !there {
		return nil
	}
	out := []goner{{n, name}}
	for _, i := range x.table.Imports(n) {
		out = append(out, x.goners(i)...)
	}
	return out
}

// buried forgets commands that went, and tells it; only a CStop of that counts.
func (x *Machine) buried(l []goner) api.Outcome {
	for _, g := range l {
		delete(x.commands, g.number)
	}
	for _, g := range l {
		if x.tracer.Gone == nil {
			break
		}
		if o := x.tracer.Gone(x, g.number, g.name); o.Code == api.CStop {
			return o
		}
	}
	return api.Outcome{}
}

// Delete takes the command with a name away.
func (x *Machine) Delete(name string) (api.Errno, api.Outcome) {
	l := x.goners(x.table.Find(name))
	if _, e := x.table.Delete(name); e != api.OK {
		return e, api.Outcome{}
	}
	return api.OK, x.buried(l)
}

// Remove takes a command away without telling it, whether it is hidden or not.
func (x *Machine) Remove(n int) {
	l := x.goners(n)
	name, hidden, there := x.table.Name(n)
	if !there {
		return
	}
	if hidden {
		// a name that nobody else has
		free := " " + strconv.Itoa(n)
		x.table.Expose(name, free)
		name = free
	}
	x.table.Delete(name)
	for _, g := range l {
		delete(x.commands, g.number)
		if x.tracer.Forget != nil {
			x.tracer.Forget(x, g.number)
		}
	}
}

// Define makes a command with a canonical name, in the place of one that has it.
func (x *Machine) Define(name string, do Do, data any) (int, api.Outcome) {
	l := x.goners(x.table.Find(name))
	n, _ := x.table.Define(name)
	x.commands[n] = &command{do, data}
	return n, x.buried(l)
}

// Import makes a command that stands for another one.
func (x *Machine) Import(name string, origin int) (int, api.Errno, api.Outcome) {
	l := x.goners(x.table.Find(name))
	n, _, e := x.table.Import(name, origin)
	if e != api.OK {
		return 0, e, api.Outcome{}
	}
	return n, api.OK, x.buried(l)
}

// Data returns what the maker of a command, or of its origin, knows of it.
func (x *Machine) Data(n int) any {
	origin, _ := x.table.Origin(n)
	if c := x.commands[origin]; c != nil {
		return c.data
	}
	return nil
}

// Name returns what a command is called, whether that is hidden, and whether it is there.
func (x *Machine) Name(n int) (name string, hidden, there bool) { return x.table.Name(n) }

// Origin returns what a command stands for in the end.
func (x *Machine) Origin(n int) int {
	origin, _ := x.table.Origin(n)
	return origin
}

// Imports returns the commands whose origin, directly, it is.
func (x *Machine) Imports(n int) []int { return x.table.Imports(n) }

// Named returns the command with a canonical name; 0 if there is none.
func (x *Machine) Named(name string) int { return x.table.Find(name) }

// FindHidden returns the command with a hidden name.
func (x *Machine) FindHidden(name string) int { return x.table.FindHidden(name) }

// Hide makes a name a hidden one.
func (x *Machine) Hide(name, as string) api.Errno { return x.table.Hide(name, as) }

// Expose makes a hidden name one that is not.
func (x *Machine) Expose(hidden, as string) api.Errno { return x.table.Expose(hidden, as) }

// HiddenNames returns the hidden names that a pattern matches.
func (x *Machine) HiddenNames(pattern string) []string { return x.table.Hidden(pattern) }

// Element returns the spot of an element of an array.
func (x *Machine) Element(s Spot, index string) Spot {
	out := Spot{Scope: s.Scope, Word: s.Word + "(" + index + ")", Used: s.Used + "(" + index + ")", Array: s.Used, Index: index, Element: true}
	if name, _, element := vars.Split(out.Word); element && name == s.Word {
		return out
	}
	// a name with a parenthesis in it: its elements have no word, so another name leads to them
	room := x.vars.Room(" ")
	x.lastRoom++
	other := strconv.Itoa(x.lastRoom)
	x.vars.Link(room, other, s.Scope, s.Word)
	out.Scope, out.Word = room, other+"("+index+")"
	return out
}

// MakeArray makes an array without elements of a variable that is not set.
func (x *Machine) MakeArray(s Spot) {
	e := x.Element(s, "")
	x.noteWrite(e)
	x.vars.Set(e.Scope, e.Word, "")
	x.vars.Unset(e.Scope, e.Word)
}
