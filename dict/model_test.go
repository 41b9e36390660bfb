package dict

import (
	"math/rand"
	"slices"
	"strconv"
	"testing"

	"threadbare/api"
	"threadbare/list"
	"threadbare/text"
)

// The functions are held against pairs in a slice, changed in the plainest way.

type pair struct{ key, value string }

func plain(l []string) []pair {
	var out []pair
	for i := 0; i < len(l); i += 2 {
		out = put(out, l[i], l[i+1])
	}
	return out
}

func put(d []pair, key, value string) []pair {
	for i := range d {
		if d[i].key == key {
			d[i].value = value
			return d
		}
	}
	return append(d, pair{key, value})
}

func written(d []pair) string {
	var l []string
	for _, p := range d {
		l = append(l, p.key, p.value)
	}
	s, _ := list.Join(l)
	return s
}

func some(r *rand.Rand, letters string, most int) string {
	b := make([]byte, r.Intn(most+1))
	for i := range b {
		b[i] = letters[r.Intn(len(letters))]
	}
	return string(b)
}

func somePairs(r *rand.Rand) []string {
	var l []string
	for range 2 * r.Intn(5) {
		l = append(l, some(r, "ab ", 2))
	}
	return l
}

func TestAsPairs(t *testing.T) {
	r := rand.New(rand.NewSource(1))
	for range 6000 {
		l := somePairs(r)
		s, _ := list.Join(l)
		d := plain(l)
		same := func(what, got string, e api.Errno, want []pair) {
			t.Helper()
			if got != written(want) || e != api.OK {
				t.Fatalf("%s of %q: %q, %d, not %q", what, s, got, e, written(want))
			}
		}
		c, e := Canonical(s)
		same("Canonical", c, e, d)
		c, e = Create(l)
		same("Create", c, e, d)
		c, e = Get(s, nil)
		same("Get of all", c, e, d)
		key, value, pattern := some(r, "ab ", 2), some(r, "{x", 2), some(r, "ab*?", 2)
		was := slices.IndexFunc(d, func(p pair) bool { return p.key == key })
		got, e := Get(s, []string{key})
		if was < 0 && e != api.ErrNone || was >= 0 && (e != api.OK || got != d[was].value) || Exists(s, []string{key}) != (was >= 0) {
			t.Fatalf("Get(%q, %q) = %q, %d", s, key, got, e)
		}
		c, e = Set(s, []string{key}, value)
		same("Set", c, e, put(slices.Clone(d), key, value))
		gone := slices.DeleteFunc(slices.Clone(d), func(p pair) bool { return p.key == key })
		c, e = Unset(s, []string{key})
		same("Unset", c, e, gone)
		c, e = Remove(s, []string{key, key})
		same("Remove", c, e, gone)
		c, e = Remove(s, []string{key, "a"})
		same("Remove of two", c, e, slices.DeleteFunc(gone, func(p pair) bool { return p.key == "a" }))
		var keys, values, pairs []string
		var byKey, byValue, turned []pair
		for _, p := range d {
			pairs = append(pairs, p.key, p.value)
			if text.Glob(pattern, p.key, false) {
				keys, byKey = append(keys, p.key), append(byKey, p)
			}
			if text.Glob(pattern, p.value, false) {
				values, byValue = append(values, p.value), append(byValue, p)
			}
			turned = put(turned, p.value, p.key)
		}
		k, _ := Keys(s, pattern)
		v, _ := Values(s, pattern)
		p, _ := Pairs(s)
		n, _ := Size(s)
		if !slices.Equal(k, keys) || !slices.Equal(v, values) || !slices.Equal(p, pairs) || n != len(d) {
			t.Fatalf("of %q by %q: %q, %q, %q, %d", s, pattern, k, v, p, n)
		}
		c, e = Filter(s, pattern, false)
		same("Filter of keys", c, e, byKey)
		c, e = Filter(s, pattern, true)
		same("Filter of values", c, e, byValue)
		c, e = Invert(s)
		same("Invert", c, e, turned)
		other := somePairs(r)
		o, _ := list.Join(other)
		c, e = Merge([]string{s, o, s})
		same("Merge", c, e, plain(slices.Concat(l, other, l)))
		alike := len(d) == len(plain(other))
		for _, p := range plain(other) {
			alike = alike && slices.Contains(d, p)
		}
		if Alike(s, o) != alike || !Alike(s, c) != (len(plain(slices.Concat(l, other))) != len(d)) {
			t.Fatalf("Alike(%q, %q) = %t", s, o, Alike(s, o))
		}
	}
}

// tree is a dictionary of dictionaries, by paths of three keys.
type tree map[[3]string]string

func TestPathsAsATree(t *testing.T) {
	r := rand.New(rand.NewSource(2))
	for range 60 {
		s, all := "", tree{}
		for range 40 {
			path := [3]string{some(r, "ab", 1), some(r, "ab", 1), some(r, "a", 1)}
			if r.Intn(3) == 0 {
				_, there := all[path]
				next, e := Unset(s, path[:])
				way := slices.ContainsFunc(keysOf(all), func(k [3]string) bool { return k[0] == path[0] && k[1] == path[1] })
				if e == api.OK {
					s = next
				} else if there || e != api.ErrNone {
					t.Fatalf("Unset(%q, %q): %d", s, path, e)
				}
				if way && e != api.OK {
					t.Fatalf("Unset(%q, %q): %d", s, path, e)
				}
				delete(all, path)
			} else {
				value := strconv.Itoa(r.Intn(100))
				next, e := Set(s, path[:], value)
				if e != api.OK {
					t.Fatalf("Set(%q, %q): %d", s, path, e)
				}
				s, all[path] = next, value
			}
			for path, value := range all {
				if got, e := Get(s, path[:]); got != value || e != api.OK || !Exists(s, path[:]) {
					t.Fatalf("Get(%q, %q) = %q, %d, not %q", s, path, got, e, value)
				}
			}
			if _, there := all[path]; Exists(s, path[:]) != there {
				t.Fatalf("Exists(%q, %q)", s, path)
			}
		}
	}
}

func keysOf(all tree) [][3]string {
	var out [][3]string
	for k := range all {
		out = append(out, k)
	}
	return out
}
