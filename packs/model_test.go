package packs

import (
	"math/rand"
	"regexp"
	"slices"
	"strconv"
	"strings"
	"testing"

	"threadbare/api"
)

// Versions are held against their form, choices against all that there are.

var versionForm = regexp.MustCompile(`^(0|[1-9][0-9]{0,8})([.ab](0|[1-9][0-9]{0,8}))*$`)

// numbers is a version as a list, told by its form.
func numbers(v string) ([]int, bool) {
	if !versionForm.MatchString(v) || strings.Count(v, "a")+strings.Count(v, "b") > 1 {
		return nil, false
	}
	var out []int
	count := 0
	for _, w := range strings.Split(strings.NewReplacer(".", " ", "a", " -2 ", "b", " -1 ").Replace(v), " ") {
		n, _ := strconv.Atoi(w)
		out = append(out, n)
		if n >= 0 {
			count++
		}
	}
	return out, count <= 20
}

func compare(a, b []int) int {
	for len(a) < len(b) {
		a = append(a, 0)
	}
	for len(b) < len(a) {
		b = append(b, 0)
	}
	return slices.Compare(a, b)
}

func some(r *rand.Rand, letters string, most int) string {
	b := make([]byte, r.Intn(most+1))
	for i := range b {
		b[i] = letters[r.Intn(len(letters))]
	}
	return string(b)
}

// meet tells by the chapter's four forms whether a version meets a requirement; ok is false if that is none.
func meet(v []int, r string) (met, ok bool) {
	if r == "" {
		return true, true
	}
	ok = true
	for _, one := range strings.Split(r, " ") {
		low, high, dash := strings.Cut(strings.TrimPrefix(one, "="), "-")
		l, right := numbers(low)
		h, right2 := numbers(high)
		exact := strings.HasPrefix(one, "=")
		if !right || high != "" && !right2 || exact && dash {
			return false, false
		}
		n := compare(slices.Clone(v), slices.Clone(l))
		switch {
		case exact:
			met = met || n == 0
		case !dash:
			met = met || n >= 0 && v[0] == l[0]
		case high == "":
			met = met || n >= 0
		case compare(slices.Clone(l), slices.Clone(h)) == 0:
			met = met || n == 0
		default:
			met = met || n >= 0 && compare(slices.Clone(v), slices.Clone(h)) < 0
		}
	}
	return met, ok
}

func TestVersionsByTheirForm(t *testing.T) {
	r := rand.New(rand.NewSource(1))
	for range 10000 {
		v, w := some(r, "0112..ab", 6), some(r, "0112..ab", 6)
		a, ok := numbers(v)
		b, ok2 := numbers(w)
		if Valid(v) != ok {
			t.Fatalf("Valid(%q) = %t", v, Valid(v))
		}
		n, e := Compare(v, w)
		if ok && ok2 && (n != compare(slices.Clone(a), slices.Clone(b)) || e != api.OK) || !(ok && ok2) && (n != 0 || e != api.ErrSyntax) {
			t.Fatalf("Compare(%q, %q) = %d, %d", v, w, n, e)
		}
		req := some(r, "012.a-- =", 7)
		met, right := meet(append(a, 0), req)
		right = right && ok
		got, e := Meets(v, req)
		if got != (met && right) || right != (e == api.OK) {
			t.Fatalf("Meets(%q, %q) = %t, %d, not %t", v, req, got, e, met)
		}
		if ok {
			if _, is := meet([]int{1}, req); Requirement(req) != is {
				t.Fatalf("Requirement(%q)", req)
			}
			stable, _ := Stable(v)
			line, _ := Line(v)
			if stable == strings.ContainsAny(v, "ab") || line != a[0] {
				t.Fatalf("%q: stable %t, line %d", v, stable, line)
			}
		}
	}
	long := strings.TrimSuffix(strings.Repeat("1.", 20), ".")
	for v, want := range map[string]bool{long: true, long + ".1": false, strings.Replace(long, ".", "a", 1): true, strings.Replace(long, ".", "a", 1) + ".1": false, "123456789": true, "1234567890": false, "0": true, "00": false, "1.": false, ".1": false, "1..1": false, "1a": false, "1a1b1": false, "1c1": false, "": false} {
		if Valid(v) != want {
			t.Errorf("Valid(%q)", v)
		}
	}
}

// someShelf makes a random one of a few names.
func someShelf(r *rand.Rand) []api.Pack {
	var l []api.Pack
	for range 1 + r.Intn(7) {
		p := api.Pack{Name: string("abc"[r.Intn(3)]), Version: []string{"1", "1.1", "2", "2a1", "3"}[r.Intn(5)]}
		for range r.Intn(3) {
			p.Needs = append(p.Needs, api.Need{Name: string("abc"[r.Intn(3)]), Requirement: []string{"", "1", "2-", "1-3", "=1.1"}[r.Intn(5)]})
		}
		if !slices.ContainsFunc(l, func(q api.Pack) bool { return q.Name == p.Name && q.Version == p.Version }) {
			l = append(l, p)
		}
	}
	return l
}

// choices are all sets of packages with at most one of each name.
func choices(l []api.Pack) [][]int {
	out := [][]int{nil}
	for i, p := range l {
		for _, c := range slices.Clone(out) {
			if !slices.ContainsFunc(c, func(k int) bool { return l[k].Name == p.Name }) {
				out = append(out, append(slices.Clone(c), i))
			}
		}
	}
	return out
}

func has(l []api.Pack, c []int, n api.Need) bool {
	return slices.ContainsFunc(c, func(i int) bool {
		v, _ := numbers(l[i].Version)
		met, _ := meet(v, n.Requirement)
		return l[i].Name == n.Name && met
	})
}

func isClosed(l []api.Pack, c []int) bool {
	for _, i := range c {
		for _, n := range l[i].Needs {
			if !has(l, c, n) {
				return false
			}
		}
	}
	return true
}

// search goes through the chapter's own way, with all open needs in one list.
func search(l []api.Pack, open []api.Need, c []int, stable bool) ([]int, bool) {
	if len(open) == 0 {
		return c, true
	}
	need := open[0]
	for _, i := range c {
		if l[i].Name == need.Name {
			if !has(l, []int{i}, need) {
				return nil, false
			}
			return search(l, open[1:], c, stable)
		}
	}
	var fit []int
	for i := range l {
		if has(l, []int{i}, need) {
			fit = append(fit, i)
		}
	}
	slices.SortStableFunc(fit, func(a, b int) int {
		x, y := strings.ContainsAny(l[a].Version, "ab"), strings.ContainsAny(l[b].Version, "ab")
		if stable && x != y {
			if y {
				return -1
			}
			return 1
		}
		v, _ := numbers(l[a].Version)
		w, _ := numbers(l[b].Version)
		return compare(w, v)
	})
	for _, i := range fit {
		if got, ok := search(l, slices.Concat(open[1:], l[i].Needs), append(slices.Clone(c), i), stable); ok {
			return got, true
		}
	}
	return nil, false
}

func TestChoicesAmongAll(t *testing.T) {
	r := rand.New(rand.NewSource(2))
	none := 0
	for range 600 {
		l, stable := someShelf(r), r.Intn(2) == 0
		if !ValidShelf(l) {
			t.Fatalf("%v is no shelf", l)
		}
		var wanted []api.Need
		for range 1 + r.Intn(2) {
			wanted = append(wanted, api.Need{Name: string("abc"[r.Intn(3)]), Requirement: []string{"", "1", "2-"}[r.Intn(3)]})
		}
		exists := false
		for _, c := range choices(l) {
			closed, e := Closed(l, c)
			if closed != isClosed(l, c) || e != api.OK {
				t.Fatalf("Closed(%v, %v) = %t, %d", l, c, closed, e)
			}
			all := closed
			for _, n := range wanted {
				serves, e := Serves(l, c, n)
				if serves != has(l, c, n) || e != api.OK {
					t.Fatalf("Serves(%v, %v, %v) = %t, %d", l, c, n, serves, e)
				}
				all = all && serves
			}
			exists = exists || all
			order, e := Order(l, c)
			if !closed {
				if e != api.ErrState || len(order) > 0 {
					t.Fatalf("Order(%v, %v) = %v, %d", l, c, order, e)
				}
				continue
			}
			var want []int
			for left := slices.Clone(c); len(left) > 0; {
				next := slices.IndexFunc(left, func(i int) bool {
					return !slices.ContainsFunc(l[i].Needs, func(n api.Need) bool { return !has(l, want, n) })
				})
				next = max(next, 0)
				want, left = append(want, left[next]), slices.Delete(left, next, next+1)
			}
			if !slices.Equal(order, want) || e != api.OK {
				t.Fatalf("Order(%v, %v) = %v, not %v", l, c, order, want)
			}
		}
		got, e := Choose(l, wanted, stable)
		want, ok := search(l, wanted, nil, stable)
		slices.Sort(want)
		if ok != exists || ok != (e == api.OK) || !ok && e != api.ErrNone || !slices.Equal(got, want) {
			t.Fatalf("Choose(%v, %v, %t) = %v, %d, not %v", l, wanted, stable, got, e, want)
		}
		if !ok {
			none++
		}
		first, ok := search(withoutNeeds(l), wanted[:1], nil, stable)
		at, e := Find(l, wanted[0].Name, wanted[0].Requirement, stable)
		if ok && (at != first[0] || e != api.OK) || !ok && e != api.ErrNone && e != api.ErrName {
			t.Fatalf("Find(%v, %v) = %d, %d, not %v", l, wanted[0], at, e, first)
		}
		var missing []api.Need
		for _, p := range l {
			for _, n := range p.Needs {
				if !slices.ContainsFunc(choices(l), func(c []int) bool { return has(l, c, n) }) && !slices.Contains(missing, n) {
					missing = append(missing, n)
				}
			}
		}
		if got, e := Missing(l); !slices.Equal(got, missing) || e != api.OK {
			t.Fatalf("Missing(%v) = %v, not %v", l, got, missing)
		}
	}
	if none < 20 {
		t.Errorf("only %d without a choice", none)
	}
}

func withoutNeeds(l []api.Pack) []api.Pack {
	out := slices.Clone(l)
	for i := range out {
		out[i].Needs = nil
	}
	return out
}
