package spaces

import (
	"strings"

	"threadbare/api"
	"threadbare/core"
	"threadbare/names"
)

func (a asker) remove() api.Outcome {
	for i := range a.Args() {
		if _, o := a.there(i); core.Bad(o) {
			return o
		}
	}
	for _, word := range a.Args() {
		if o := Delete(a.Machine, a.path(word)); core.Bad(o) {
			return o
		}
	}
	return api.Outcome{}
}

func within(path, space string) bool {
	return path == space || space == "::" || strings.HasPrefix(path, space+"::")
}

// Delete takes a namespace away, with its commands and variables and with those below; only a CStop of traces counts.
func Delete(x *core.Machine, space string) api.Outcome {
	numbers := map[string]int{}
	all := x.Commands("*")
	for _, name := range all {
		numbers[name] = x.Named(name)
	}
	for _, name := range all {
		// one that a trace has made meanwhile stays
		if !within(names.Head(name), space) || x.Named(name) != numbers[name] {
			continue
		}
		if _, o := x.Delete(name); core.Bad(o) {
			return o
		}
	}
	var paths []string
	for _, path := range x.Tree().All() {
		if within(path, space) {
			paths = append(paths, path)
		}
	}
	for _, path := range paths {
		if o := empty(x, path); core.Bad(o) {
			return o
		}
	}
	gone, _ := x.Tree().Delete(space)
	for _, path := range append(gone, paths...) {
		forget(x, path)
	}
	x.Changed()
	return api.Outcome{}
}

// own returns the variables of a namespace that are no links.
func own(x *core.Machine, path string) (scope int, out []string) {
	if !x.HasRoom(path) {
		return 0, nil
	}
	scope = x.Room(path)
	for _, name := range x.Vars().Names(scope, "*") {
		if !x.Vars().Linked(scope, name) {
			out = append(out, name)
		}
	}
	return scope, out
}

// empty unsets the variables of a namespace.
func empty(x *core.Machine, path string) api.Outcome {
	scope, l := own(x, path)
	for _, name := range l {
		if x.Vars().Kind(scope, name) == 0 {
			continue // a trace was quicker
		}
		used := strings.TrimSuffix(path, "::") + "::" + name
		if o := x.UnsetSpot(core.Spot{Scope: scope, Word: name, Used: used}); o.Code == api.CStop {
			return o
		}
	}
	return api.Outcome{}
}

// forget takes away what traces have set meanwhile, without telling it, and the room itself.
func forget(x *core.Machine, path string) {
	scope, l := own(x, path)
	for _, name := range l {
		x.Vars().Unset(scope, name)
	}
	if path != "::" {
		x.Leave(path)
	}
}
