package packs

import (
	"iter"
	"slices"

	"threadbare/api"
)

const (
	maxPacks = 100
	maxNeeds = 10
	maxTries = 2000
)

func validNeed(n api.Need) bool { return validName(n.Name) && Requirement(n.Requirement) }

func validNeeds(l []api.Need) bool {
	return len(l) <= maxNeeds && !slices.ContainsFunc(l, func(n api.Need) bool { return !validNeed(n) })
}

// ValidShelf reports whether a list is a shelf.
func ValidShelf(l []api.Pack) bool {
	if len(l) > maxPacks {
		return false
	}
	for i, p := range l {
		if !validName(p.Name) || !Valid(p.Version) || !validNeeds(p.Needs) {
			return false
		}
		for _, other := range l[:i] {
			if other.Name == p.Name && order(other.Version, p.Version) == 0 {
				return false
			}
		}
	}
	return true
}

// fitting yields the packages of a name that meet a requirement, the best first.
func fitting(l []api.Pack, n api.Need, stable bool) iter.Seq[int] {
	return func(yield func(int) bool) {
		var found []int
		for i, p := range l {
			if serves(p, n) {
				found = append(found, i)
			}
		}
		compare := better(stable)
		slices.SortStableFunc(found, func(a, b int) int { return compare(l[a].Version, l[b].Version) })
		for _, i := range found {
			if !yield(i) {
				return
			}
		}
	}
}

func serves(p api.Pack, n api.Need) bool { return p.Name == n.Name && meets(p.Version, n.Requirement) }

// Find returns the index of the best package with a name that meets a requirement.
func Find(l []api.Pack, name, r string, stable bool) (int, api.Errno) {
	switch {
	case !Requirement(r):
		return 0, api.ErrSyntax
	case !ValidShelf(l):
		return 0, api.ErrInvalid
	case !slices.ContainsFunc(l, func(p api.Pack) bool { return p.Name == name }):
		return 0, api.ErrName
	}
	for i := range fitting(l, api.Need{Name: name, Requirement: r}, stable) {
		return i, api.OK
	}
	return 0, api.ErrNone
}

// Names returns the names of all packages.
func Names(l []api.Pack) ([]string, api.Errno) {
	if !ValidShelf(l) {
		return nil, api.ErrInvalid
	}
	var out []string
	for _, p := range l {
		out = append(out, p.Name)
	}
	slices.Sort(out)
	return slices.Compact(out), api.OK
}

// Missing returns the needs that no package of the shelf meets.
func Missing(l []api.Pack) ([]api.Need, api.Errno) {
	if !ValidShelf(l) {
		return nil, api.ErrInvalid
	}
	var out []api.Need
	for _, p := range l {
		for _, n := range p.Needs {
			met := slices.ContainsFunc(l, func(p api.Pack) bool { return serves(p, n) })
			if !met && !slices.Contains(out, n) {
				out = append(out, n)
			}
		}
	}
	return out, api.OK
}

// chosen asks for a shelf and a choice.
func chosen(l []api.Pack, choice []int) api.Errno {
	if !ValidShelf(l) {
		return api.ErrInvalid
	}
	names := map[string]bool{}
	for k, i := range choice {
		if i < 0 || i >= len(l) || k > 0 && choice[k-1] >= i || names[l[i].Name] {
			return api.ErrRange
		}
		names[l[i].Name] = true
	}
	return api.OK
}

func served(l []api.Pack, choice []int, n api.Need) bool {
	return slices.ContainsFunc(choice, func(i int) bool { return serves(l[i], n) })
}

func allServed(l []api.Pack, choice []int, needs []api.Need) bool {
	return !slices.ContainsFunc(needs, func(n api.Need) bool { return !served(l, choice, n) })
}

func closed(l []api.Pack, choice []int) bool {
	return !slices.ContainsFunc(choice, func(i int) bool { return !allServed(l, choice, l[i].Needs) })
}

// Closed reports whether a choice is closed.
func Closed(l []api.Pack, choice []int) (bool, api.Errno) {
	if e := chosen(l, choice); e != api.OK {
		return false, e
	}
	return closed(l, choice), api.OK
}

// Serves reports whether a choice serves a need.
func Serves(l []api.Pack, choice []int, need api.Need) (bool, api.Errno) {
	if !validNeed(need) {
		return false, api.ErrInvalid
	}
	if e := chosen(l, choice); e != api.OK {
		return false, e
	}
	return served(l, choice, need), api.OK
}

// Choose returns the first choice found that is closed and serves all that is wanted.
func Choose(l []api.Pack, wanted []api.Need, stable bool) ([]int, api.Errno) {
	if !ValidShelf(l) || !validNeeds(wanted) {
		return nil, api.ErrInvalid
	}
	has := map[string]int{}
	tries := 0
	var meet func(open []api.Need) api.Errno
	meet = func(open []api.Need) api.Errno {
		if len(open) == 0 {
			return api.OK
		}
		need, rest := open[0], open[1:]
		if i, ok := has[need.Name]; ok {
			if !serves(l[i], need) {
				return api.ErrNone
			}
			return meet(rest)
		}
		for i := range fitting(l, need, stable) {
			if tries++; tries > maxTries {
				return api.ErrLimit
			}
			has[need.Name] = i
			if e := meet(append(rest[:len(rest):len(rest)], l[i].Needs...)); e != api.ErrNone {
				return e
			}
			delete(has, need.Name)
		}
		return api.ErrNone
	}
	if e := meet(wanted); e != api.OK {
		return nil, e
	}
	var out []int
	for _, i := range has {
		out = append(out, i)
	}
	slices.Sort(out)
	return out, api.OK
}

// Order returns the packages of a closed choice in an order of loading.
func Order(l []api.Pack, choice []int) ([]int, api.Errno) {
	if e := chosen(l, choice); e != api.OK {
		return nil, e
	}
	if !closed(l, choice) {
		return nil, api.ErrState
	}
	left := slices.Clone(choice)
	var out []int
	for len(left) > 0 {
		next := max(slices.IndexFunc(left, func(i int) bool { return allServed(l, out, l[i].Needs) }), 0)
		out = append(out, left[next])
		left = slices.Delete(left, next, next+1)
	}
	return out, api.OK
}
