// Package core is the machine itself: package machine gives it out, and the packages of commands lay theirs down in it.
package core

import (
	"maps"
	"slices"

	"threadbare/api"
	"threadbare/list"
	"threadbare/names"
	"threadbare/table"
	"threadbare/text"
	"threadbare/value"
	"threadbare/vars"
)

// Do is what a command does with its words; the first one is what it was called.
type Do func(x *Machine, words []string) api.Outcome

// Layer is commands that are laid down together, and what else a new machine needs for them.
type Layer struct {
	Name     string
	Commands map[string]Do
	Hidden   []string // the commands that a safe child has not
	Install  func(x *Machine)
}

// command is what is done by a number; data is what its maker knows of it.
type command struct {
	do   Do
	data any
}

// Frame is where scripts are evaluated: a scope, a namespace and a level.
type Frame struct {
	Scope int
	Space string
	Level int
	Up    *Frame
	Words []string
	Data  any // what a layer knows of it
}

// compiled is code that was made of a text, or why there is none.
type compiled struct {
	code []api.Instr
	e    api.Errno
}

type found struct{ space, word string }

// family is what machines within each other share.
type family struct {
	left, depth int
	stop        *Machine // whose script it is that ends; nil where steps ran out
	why         string
	watched     map[vars.Place]bool
	tails       map[int]Tail
	lastTail    int
	traces      any
}

// Machine evaluates scripts.
type Machine struct {
	*family
	vars     *vars.Space
	tree     *names.Tree
	table    *table.Table
	commands map[int]*command
	rooms    map[string]int
	lastRoom int
	frame    *Frame
	global   *Frame
	layers   []Layer
	parts    map[string]any
	maker    *Machine
	deleted  bool
	limited  bool
	limit    int
	keeps    bool
	scripts  *shelf[*compiled]
	exprs    *shelf[*compiled]
	values   *shelf[*value.Value]
	joined   *shelf[int] // how many elements canonical lists have
	known    map[found]int
	epoch    int
	changes  int
	does     instructions
	tracer   Tracer
}

// New returns a machine with the commands of layers.
func New(layers []Layer) *Machine {
	return build(layers, &family{watched: map[vars.Place]bool{}, tails: map[int]Tail{}}, nil)
}

func build(layers []Layer, f *family, maker *Machine) *Machine {
	x := &Machine{family: f, maker: maker, vars: vars.New(), tree: names.New(), table: table.New(), commands: map[int]*command{}, rooms: map[string]int{}, layers: layers, parts: map[string]any{}, keeps: true, does: does()}
	x.global = &Frame{Space: "::"}
	x.frame = x.global
	x.Forget()
	for _, l := range layers {
		for _, name := range slices.Sorted(maps.Keys(l.Commands)) {
			n, _ := x.table.Define("::" + name)
			x.commands[n] = &command{do: l.Commands[name]}
		}
		if l.Install != nil {
			l.Install(x)
		}
	}
	return x
}

// Child returns a machine within another one, with the same layers.
func (x *Machine) Child() *Machine {
	c := build(x.layers, x.family, x)
	c.keeps = x.keeps
	return c
}

// Part returns what a layer keeps in a machine.
func (x *Machine) Part(name string) any { return x.parts[name] }

// Keep lets a layer keep something in a machine.
func (x *Machine) Keep(name string, part any) { x.parts[name] = part }

// Layers returns the layers that the machine is made of.
func (x *Machine) Layers() []Layer { return append([]Layer(nil), x.layers...) }

// Eval evaluates a script in the global scope and namespace.
func (x *Machine) Eval(script string, steps int) api.Outcome {
	return x.Outside(steps, func() api.Outcome { return x.Script(script) })
}

// Expr evaluates an expression likewise.
func (x *Machine) Expr(expression string, steps int) api.Outcome {
	return x.Outside(steps, func() api.Outcome { return x.Expression(expression) })
}

// Outside does something with some steps, as it is asked for from outside.
func (x *Machine) Outside(steps int, do func() api.Outcome) api.Outcome {
	if x == nil {
		return api.Outcome{Code: api.CError, Text: "machine"}
	}
	x.left = min(max(steps, 0), api.MaxSteps)
	x.depth, x.frame = 0, x.global
	return (*Machine)(nil).Enter(x, do)
}

// Left returns how many steps were left after the last one.
func (x *Machine) Left() int {
	if x == nil {
		return 0
	}
	return x.left
}

// plain reports whether a variable's word has no separator in its name.
func plain(word string) bool {
	name, _, _ := vars.Split(word)
	return text.First("::", name, 0) < 0
}

// Get reads a global variable.
func (x *Machine) Get(name string) (string, api.Errno) {
	switch {
	case x == nil:
		return "", api.OK
	case !plain(name):
		return "", api.ErrName
	}
	return x.vars.Get(0, name)
}

// Set sets a global variable.
func (x *Machine) Set(name, value string) api.Errno {
	switch {
	case x == nil:
		return api.ErrState
	case !plain(name):
		return api.ErrName
	}
	return x.vars.Set(0, name, value)
}

// Commands returns the names of all commands that a pattern matches.
func (x *Machine) Commands(pattern string) []string {
	if x == nil {
		return nil
	}
	return x.table.Names(pattern)
}

// Spaces returns the paths of all namespaces.
func (x *Machine) Spaces() []string {
	if x == nil {
		return nil
	}
	return x.tree.All()
}

// Dump returns the variables of all namespaces.
func (x *Machine) Dump() string {
	out := ""
	for _, path := range x.Spaces() {
		scope, ok := x.rooms[path]
		if path != "::" && !ok || len(x.vars.Names(scope, "*")) == 0 {
			continue
		}
		if out != "" {
			out += " "
		}
		out += list.Quote(path) + " " + list.Quote(x.vars.Dump(scope))
	}
	return out
}

// Forget drops all faces and all code that was made.
func (x *Machine) Forget() {
	if x == nil {
		return
	}
	x.scripts, x.exprs, x.values, x.joined, x.known = newShelf[*compiled](), newShelf[*compiled](), newShelf[*value.Value](), newShelf[int](), map[found]int{}
	for _, c := range x.below() {
		c.Forget()
	}
}

// Faces tells whether values and scripts keep faces and code.
func (x *Machine) Faces(on bool) {
	if x == nil {
		return
	}
	x.keeps = on
	for _, c := range x.below() {
		c.Faces(on)
	}
	x.Forget()
}

// Family is what a layer that has children keeps: it tells them.
type Family interface{ Machines() []*Machine }

// below returns the machines directly within this one.
func (x *Machine) below() []*Machine {
	for _, part := range x.parts {
		if f, ok := part.(Family); ok {
			return f.Machines()
		}
	}
	return nil
}
