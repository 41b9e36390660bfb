package objects

import (
	"slices"

	"threadbare/api"
)

// graph is classes that are told by indexes or pointers, with what is above them and what is mixed into them.
type graph[T comparable] struct {
	supers, mixins func(class T) []T
}

// lastPlaces keeps the last place of what comes several times.
func lastPlaces[T comparable](l []T) []T {
	var out []T
	for i, one := range l {
		if !slices.Contains(l[i+1:], one) {
			out = append(out, one)
		}
	}
	return out
}

// order returns the order of a class; false for a circle.
func (g graph[T]) order(class T) ([]T, bool) {
	known, open, ok := map[T][]T{}, map[T]bool{}, true
	var visit func(c T) []T
	visit = func(c T) []T {
		if l, is := known[c]; is {
			return l
		}
		if open[c] {
			ok = false
			return nil
		}
		open[c] = true
		l := []T{c}
		for _, s := range g.supers(c) {
			l = append(l, visit(s)...)
		}
		open[c] = false
		known[c] = lastPlaces(l)
		return known[c]
	}
	l := visit(class)
	return l, ok
}

// mixed returns the mixed order of a class; false for a circle.
func (g graph[T]) mixed(class T) ([]T, bool) {
	var out []T
	there, done, open, ok := map[T]bool{}, map[T]bool{}, map[T]bool{}, true
	var visit func(c T)
	visit = func(c T) {
		if done[c] || open[c] {
			return
		}
		open[c] = true
		l, right := g.order(c)
		ok = ok && right
		for _, k := range l {
			if k != c && open[k] {
				continue
			}
			open[k] = true
			for _, m := range g.mixins(k) {
				visit(m)
			}
			if k != c {
				open[k] = false
			}
			if !there[k] {
				there[k] = true
				out = append(out, k)
			}
		}
		open[c] = false
		done[c] = true
	}
	visit(class)
	return out, ok
}

const maxClasses = 100

// indexed returns the graph of classes that are told by indexes.
func indexed(supers, mixins [][]int, class int) (graph[int], api.Errno) {
	wrong := func(i int) bool { return i < 0 || i >= len(supers) }
	bad := len(supers) > maxClasses || wrong(class)
	for _, l := range slices.Concat(supers, mixins) {
		bad = bad || slices.ContainsFunc(l, wrong)
	}
	if bad {
		return graph[int]{}, api.ErrRange
	}
	of := func(l [][]int) func(int) []int {
		return func(i int) []int {
			if i >= len(l) {
				return nil
			}
			return l[i]
		}
	}
	return graph[int]{of(supers), of(mixins)}, api.OK
}

// Order returns the order of a class.
func Order(supers [][]int, class int) ([]int, api.Errno) {
	g, e := indexed(supers, nil, class)
	if e != api.OK {
		return nil, e
	}
	l, ok := g.order(class)
	if !ok {
		return nil, api.ErrState
	}
	return slices.Clone(l), api.OK
}

// Mixed returns the mixed order of a class.
func Mixed(supers, mixins [][]int, class int) ([]int, api.Errno) {
	if len(mixins) != len(supers) {
		return nil, api.ErrInvalid
	}
	g, e := indexed(supers, mixins, class)
	if e != api.OK {
		return nil, e
	}
	l, ok := g.mixed(class)
	if !ok {
		return nil, api.ErrState
	}
	return l, api.OK
}
