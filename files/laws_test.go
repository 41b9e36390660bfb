package files

import (
	"math/rand"
	"slices"
	"testing"

	"threadbare/api"
)

// whole asks whether a store fits together: parents are there, and bytes are counted.
func whole(t *testing.T, s *Store) {
	t.Helper()
	all, bytes := s.All(), 0
	if !slices.IsSorted(all) || len(all) != s.count || len(all) > api.MaxFiles {
		t.Fatalf("%d paths, counted %d: %q", len(all), s.count, all)
	}
	for _, p := range all {
		if n, e := Normal("/", p); n != p || e != api.OK {
			t.Fatalf("%q is not normal", p)
		}
		parent := Parent(p)
		if kind, e := s.Kind(parent); kind != 2 || e != api.OK {
			t.Fatalf("%q has no parent", p)
		}
		if n, _ := Normal(parent, Name(p)); n != p {
			t.Fatalf("%q is not %q below %q", p, Name(p), parent)
		}
		if b, e := s.Get(p); e == api.OK {
			bytes += len(b)
		}
		l, e := s.List(parent, "*")
		if e != api.OK || !slices.ContainsFunc(l, func(x api.Entry) bool { return x.Name == Name(p) }) {
			t.Fatalf("%q is not listed", p)
		}
	}
	if bytes != s.Bytes() {
		t.Fatalf("%d bytes, counted %d", bytes, s.Bytes())
	}
}

func TestLaws(t *testing.T) {
	r := rand.New(rand.NewSource(9))
	paths := []string{"/a", "/b", "/a/x", "/a/b", "/a/b/c", "/b/c", "/", "/../a/./x", "q", "/b//"}
	path := func() string { return paths[r.Intn(len(paths))] }
	for range 300 {
		s := NewStore()
		var handles []int
		for range 60 {
			show, pending := s.Show(), false
			for _, h := range s.handles {
				pending = pending || len(h.pending) > 0
			}
			e := api.OK
			switch r.Intn(12) {
			case 0, 1:
				e = s.Make(path())
			case 2, 3:
				e = s.Put(path(), "bytes"[:r.Intn(6)])
			case 4:
				e = s.Delete(path(), r.Intn(2) == 0)
			case 5, 6:
				e = s.Rename(path(), path())
			case 7:
				e = s.Copy(path(), path())
			case 8, 9:
				h := 0
				if h, e = s.Open(path(), []string{"r", "r+", "w", "w+", "a", "a+", "x"}[r.Intn(7)]); e == api.OK {
					handles = append(handles, h)
				}
			default:
				h := r.Intn(9)
				if len(handles) > 0 {
					h = handles[r.Intn(len(handles))]
				}
				switch r.Intn(5) {
				case 0:
					e = s.Write(h, "more")
				case 1:
					_, e = s.Read(h, r.Intn(5)-1)
				case 2:
					_, e = s.Seek(h, r.Intn(9)-3, []string{"start", "here", "end", "x"}[r.Intn(4)])
				case 3:
					e = s.Flush(h)
				default:
					e = s.CloseFile(h)
				}
			}
			whole(t, s)
			if e != api.OK && !pending && s.Show() != show {
				t.Fatalf("a refused call (%d) changes something:\n%s\n%s", e, show, s.Show())
			}
			if s.Twin().Show() != s.Show() {
				t.Fatal("a twin is another one")
			}
		}
		// what is written through one handle is read at its place
		s.Put("/w", "")
		h, _ := s.Open("/w", "w+")
		model := make([]byte, 0, 40)
		for range 10 {
			at := r.Intn(20)
			s.Seek(h, at, "start")
			s.Write(h, "xyz")
			for len(model) < at+3 {
				model = append(model, 0)
			}
			copy(model[at:], "xyz")
		}
		s.Seek(h, 0, "start")
		if got, _ := s.Read(h, -1); got != string(model) {
			t.Fatalf("%q was read, not %q", got, model)
		}
	}
}
