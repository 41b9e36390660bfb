package objects

import (
	"slices"
	"strconv"

	"threadbare/api"
	"threadbare/core"
	"threadbare/procs"
	"threadbare/spaces"
)

// method is a procedure, or a forward: words of a command.
type method struct {
	*procs.Procedure
	forward []string
}

// members is what classes and objects have alike.
type members struct {
	methods map[string]*method
	mixins  []*class
	filters []string
}

// class has superclasses, a constructor, a destructor and fields.
type class struct {
	members
	number    int
	supers    []*class
	construct *method
	destruct  *method
	fields    []string
	gone      bool
}

// object has a class, and variables in a namespace of its own.
type object struct {
	members
	number      int
	space       string
	class       *class
	dying, gone bool
}

// world is the classes and objects of a machine.
type world struct {
	classes []*class
	objects []*object
	last    int
}

func worldOf(x *core.Machine) *world { return x.Part("objects").(*world) }

func classes() graph[*class] {
	return graph[*class]{func(c *class) []*class { return c.supers }, func(c *class) []*class { return c.mixins }}
}

// order returns the classes of an object, in its order; own tells how many stand before the object itself.
func (o *object) order() (l []*class, own int) {
	for _, m := range o.mixins {
		more, _ := classes().mixed(m)
		l = append(l, more...)
	}
	l = firstPlaces(l)
	own = len(l)
	more, _ := classes().mixed(o.class)
	return firstPlaces(append(l, more...)), own
}

func firstPlaces[T comparable](l []T) []T {
	var out []T
	for _, one := range l {
		if !slices.Contains(out, one) {
			out = append(out, one)
		}
	}
	return out
}

// entry is one of a chain: a method with its name; its class is nil for the object's own.
type entry struct {
	*method
	name  string
	class *class
}

// holders returns what the object's order goes through: its classes, and itself (nil).
func (o *object) holders() []*class {
	l, own := o.order()
	return slices.Insert(l, own, nil)
}

// named returns the methods with a name.
func (o *object) named(name string) []entry {
	var out []entry
	for _, c := range o.holders() {
		m := o.methods[name]
		if c != nil {
			m = c.methods[name]
		}
		if m != nil {
			out = append(out, entry{m, name, c})
		}
	}
	return out
}

// chain returns the chain of a method, filters first; none if there is no such method.
func (o *object) chain(name string) []entry {
	own := o.named(name)
	if len(own) == 0 {
		return nil
	}
	filters := slices.Clone(o.filters)
	for _, c := range o.holders() {
		if c != nil {
			filters = append(filters, c.filters...)
		}
	}
	var out []entry
	for _, f := range firstPlaces(filters) {
		if f != name {
			out = append(out, o.named(f)...)
		}
	}
	return append(out, own...)
}

// special returns the chain of constructors or destructors, by a name of theirs.
func (o *object) special(name string, which func(c *class) *method) []entry {
	var out []entry
	for _, c := range o.holders() {
		if c != nil && which(c) != nil {
			out = append(out, entry{which(c), name, c})
		}
	}
	return out
}

// call is a method that was called, with its chain.
type call struct {
	*object
	chain []entry
}

// turn is one of a chain while it is done.
type turn struct {
	*call
	at int
}

// do does the entry of a turn: with the words of the command that calls it, and those that the method gets.
func (t turn) do(x *core.Machine, words, args []string) api.Outcome {
	if t.at >= len(t.chain) {
		return api.Outcome{}
	}
	e := t.chain[t.at]
	if e.forward != nil {
		return x.CallIn(t.space, slices.Concat(e.forward, args))
	}
	return e.Call(x, t.space, words, args, func(scope int) api.Outcome {
		x.Frame().Data = t
		t.link(x, scope, e)
		return api.Outcome{}
	})
}

// link links the fields of the class that has the method to the object's variables.
func (t turn) link(x *core.Machine, scope int, e entry) {
	holder := e.class
	if holder == nil {
		holder = t.class
	}
	if !x.Tree().Exists(t.space) {
		return
	}
	params := e.Names()
	for _, field := range holder.fields {
		if !slices.Contains(params, field) {
			x.Vars().Link(scope, field, x.Room(t.space), field)
		}
	}
}

// invoke calls a method of an object.
func (o *object) invoke(x *core.Machine, name string, words, args []string) api.Outcome {
	chain := o.chain(name)
	if len(chain) == 0 {
		return core.Fail("method", name)
	}
	return turn{&call{o, chain}, 0}.do(x, words, args)
}

// nameOf returns what the command of a class or an object is called; empty if it is gone.
func nameOf(x *core.Machine, n int) string {
	name, _, _ := x.Name(n)
	return name
}

func classNames(x *core.Machine, l []*class) []string {
	var out []string
	for _, c := range l {
		out = append(out, nameOf(x, c.number))
	}
	return out
}

// drop takes the command of a class or an object away.
func drop(x *core.Machine, n int) api.Outcome {
	name, hidden, there := x.Name(n)
	switch {
	case !there:
		return api.Outcome{}
	case hidden:
		x.Remove(n)
		return api.Outcome{}
	}
	_, o := x.Delete(name)
	return o
}

// newObject makes an object of a class; its command has a name, or that of its namespace.
func (w *world) newObject(x *core.Machine, c *class, name string) (*object, api.Outcome) {
	w.last++
	o := &object{class: c, space: "::oo::" + strconv.Itoa(w.last)}
	o.methods = map[string]*method{}
	x.Tree().Make(o.space)
	x.Changed()
	if name == "" {
		name = o.space
	}
	w.objects = append(w.objects, o)
	n, out := x.Define(name, func(x *core.Machine, words []string) api.Outcome {
		if len(words) < 2 {
			return core.Wrong(words)
		}
		return o.invoke(x, words[1], words, words[2:])
	}, o)
	o.number = n
	return o, out
}

// bury takes an object away, with its command and its namespace.
func (w *world) bury(x *core.Machine, o *object) api.Outcome {
	if o.gone {
		return api.Outcome{}
	}
	o.gone = true
	w.objects = slices.DeleteFunc(w.objects, func(one *object) bool { return one == o })
	out := drop(x, o.number)
	if x.Tree().Exists(o.space) {
		if more := spaces.Delete(x, o.space); core.Bad(more) {
			out = more
		}
	}
	return out
}

// destroy does the destructors of an object, and takes it away.
func (w *world) destroy(x *core.Machine, o *object, words []string) api.Outcome {
	if o.dying || o.gone {
		return api.Outcome{}
	}
	o.dying = true
	chain := o.special("destructor", func(c *class) *method { return c.destruct })
	out := turn{&call{o, chain}, 0}.do(x, words, nil)
	if out.Code == api.CStop {
		o.dying = false
		return out
	}
	return w.bury(x, o)
}

// instances returns the objects whose class it is, in the order in which they were made.
func (w *world) instances(c *class) []*object {
	return slices.DeleteFunc(slices.Clone(w.objects), func(o *object) bool { return o.class != c })
}

// below returns the classes that have one as a superclass, ascending by name.
func (w *world) below(x *core.Machine, c *class) []*class {
	l := slices.DeleteFunc(slices.Clone(w.classes), func(one *class) bool { return !slices.Contains(one.supers, c) })
	slices.SortStableFunc(l, func(a, b *class) int {
		if nameOf(x, a.number) < nameOf(x, b.number) {
			return -1
		}
		return 1
	})
	return l
}

// next returns what is to go before a class can go: a class below it, or an object of it whose destructors are not being
// done already.
func (w *world) next(x *core.Machine, c *class) (*class, *object) {
	if l := w.below(x, c); len(l) > 0 {
		return l[0], nil
	}
	for _, o := range w.instances(c) {
		if !o.dying {
			return nil, o
		}
	}
	return nil, nil
}

// remove takes a class away, with those below it and its objects, also such as destructors make meanwhile.
func (w *world) remove(x *core.Machine, c *class, words []string) api.Outcome {
	for below, o := w.next(x, c); below != nil || o != nil; below, o = w.next(x, c) {
		out := api.Outcome{}
		if below != nil {
			out = w.remove(x, below, words)
		} else {
			out = w.destroy(x, o, words)
		}
		if core.Bad(out) {
			return out
		}
	}
	if c.gone {
		return api.Outcome{}
	}
	c.gone = true
	is := func(one *class) bool { return one == c }
	w.classes = slices.DeleteFunc(w.classes, is)
	for _, other := range w.classes {
		other.mixins = slices.DeleteFunc(slices.Clone(other.mixins), is)
	}
	for _, o := range w.objects {
		o.mixins = slices.DeleteFunc(slices.Clone(o.mixins), is)
	}
	return drop(x, c.number)
}
