package names

import (
	"math/rand"
	"path"
	"regexp"
	"slices"
	"strings"
	"testing"

	"threadbare/api"
	"threadbare/text"
)

// The tree is held against a set of slashed paths.

var separator = regexp.MustCompile(`::+`)

// slashed is a path with slashes for separators, and a lone colon at either end left out.
func slashed(p string) string {
	s := separator.ReplaceAllString(p, "/")
	s = strings.TrimSuffix(strings.TrimPrefix(s, ":"), ":")
	return path.Clean("/" + s)
}

func colons(s string) string {
	if s == "/" {
		return "::"
	}
	return strings.ReplaceAll(s, "/", "::")
}

func some(r *rand.Rand, most int) string {
	b := make([]byte, r.Intn(most+1))
	for i := range b {
		b[i] = "ab::::"[r.Intn(6)]
	}
	return string(b)
}

func TestPathsAsSlashedOnes(t *testing.T) {
	r := rand.New(rand.NewSource(1))
	for range 20000 {
		p, space := some(r, 9), some(r, 5)
		want := slashed(p)
		parts := strings.FieldsFunc(want, func(c rune) bool { return c == '/' })
		if got := Parts(p); !slices.Equal(got, parts) {
			t.Fatalf("Parts(%q) = %q, not %q", p, got, parts)
		}
		if !strings.HasPrefix(p, "::") {
			want = path.Clean(slashed(space) + want)
		}
		if got := Canonical(space, p); got != colons(want) || Canonical(p, got) != got {
			t.Fatalf("Canonical(%q, %q) = %q, not %q", space, p, got, colons(want))
		}
		if Absolute(p) != strings.HasPrefix(p, "::") {
			t.Fatalf("Absolute(%q)", p)
		}
		all := separator.FindAllStringIndex(p, -1)
		head, tail := "", p
		if len(all) > 0 {
			last := all[len(all)-1]
			head, tail = p[:last[0]], p[last[1]:]
		}
		if Tail(p) != tail || Head(p) != colons(slashed(head)) {
			t.Fatalf("%q has the head %q and the tail %q, not %q and %q", p, Head(p), Tail(p), colons(slashed(head)), tail)
		}
	}
}

// space is what the model knows of a namespace.
type space struct {
	search, exports []string
	unknown         string
}

func below(p, head string) bool {
	return p != head && strings.HasPrefix(p, strings.TrimSuffix(head, "/")+"/")
}

func TestTreeAsASet(t *testing.T) {
	r := rand.New(rand.NewSource(2))
	paths := []string{"a", "::a", "a::b", "::a::b::c", "b", "::", "", "b::a", "ab", "::ab::c", "a::ab"}
	for range 500 {
		tree, set := New(), map[string]*space{"/": {}}
		for range 40 {
			p, other := paths[r.Intn(len(paths))], paths[r.Intn(len(paths))]
			at, second := slashed(p), slashed(other)
			missing := api.OK
			if set[at] == nil {
				missing = api.ErrNone
			}
			var got, want api.Errno
			what := r.Intn(6)
			switch what {
			case 0, 1:
				got = tree.Make(p)
				for q := at; set[q] == nil; q = path.Dir(q) {
					set[q] = &space{}
				}
			case 2:
				if r.Intn(2) == 0 {
					continue
				}
				var wanted []string
				for q := range set {
					if missing == api.OK && (q == at && q != "/" || below(q, at)) {
						wanted = append(wanted, colons(q))
						delete(set, q)
					}
				}
				slices.Sort(wanted)
				if at == "/" {
					set["/"] = &space{}
				}
				gone, e := tree.Delete(p)
				if got, want = e, missing; !slices.Equal(gone, wanted) {
					t.Fatalf("Delete(%q) = %q, not %q", p, gone, wanted)
				}
			case 3:
				if got, want = tree.SetSearch(p, []string{other, "::b"}), missing; want == api.OK {
					if set[second] == nil || set["/b"] == nil {
						want = api.ErrNone
					} else {
						set[at].search = []string{colons(second), "::b"}
					}
				}
			case 4:
				clear := r.Intn(3) == 0
				if got, want = tree.Export(p, []string{other, "c*", other}, clear), missing; want == api.OK {
					if clear {
						set[at].exports = nil
					}
					for _, pattern := range []string{other, "c*"} {
						if !slices.Contains(set[at].exports, pattern) {
							set[at].exports = append(set[at].exports, pattern)
						}
					}
				}
			case 5:
				if got, want = tree.SetUnknown(p, other), missing; want == api.OK {
					set[at].unknown = other
				}
			}
			if got != want {
				t.Fatalf("call %d of %q, %q: %d, not %d", what, p, other, got, want)
			}
			sameTree(t, tree, set, p, other)
		}
	}
}

func sameTree(t *testing.T, tree *Tree, set map[string]*space, p, name string) {
	at := slashed(p)
	var all, children []string
	for q := range set {
		all = append(all, colons(q))
		if q != "/" && path.Dir(q) == at && text.Glob("a*", path.Base(q), false) {
			children = append(children, colons(q))
		}
	}
	slices.Sort(all)
	slices.Sort(children)
	if got := tree.All(); !slices.Equal(got, all) {
		t.Fatalf("All = %q, not %q", got, all)
	}
	got, e := tree.Children(p, "a*")
	search, e2 := tree.Search(p)
	patterns, e3 := tree.Patterns(p)
	unknown, e4 := tree.Unknown(p)
	candidates, e5 := tree.Candidates(p, name)
	one := set[at]
	if tree.Exists(p) != (one != nil) {
		t.Fatalf("Exists(%q)", p)
	}
	if one == nil {
		if e != api.ErrNone || e2 != api.ErrNone || e3 != api.ErrNone || e4 != api.ErrNone || e5 != api.ErrNone || tree.Exports(p, name) {
			t.Fatalf("%q is there: %d, %d, %d, %d, %d", p, e, e2, e3, e4, e5)
		}
		return
	}
	var tried []string
	for _, q := range slices.Concat([]string{colons(at)}, one.search, []string{"::"}) {
		c := colons(path.Clean(slashed(q) + slashed(name)))
		if strings.HasPrefix(name, "::") {
			c = colons(slashed(name))
		}
		if set[slashed(q)] != nil && !slices.Contains(tried, c) {
			tried = append(tried, c)
		}
	}
	exports := slices.ContainsFunc(one.exports, func(q string) bool { return text.Glob(q, name, false) })
	if !slices.Equal(got, children) || !slices.Equal(search, one.search) || !slices.Equal(patterns, one.exports) || unknown != one.unknown || !slices.Equal(candidates, tried) || tree.Exports(p, name) != exports {
		t.Fatalf("of %q: children %q, search %q, exports %q, unknown %q, candidates of %q %q, not %q", p, got, search, patterns, unknown, name, candidates, tried)
	}
}
