package files

import (
	"fmt"
	"hash/fnv"
	"math/rand"
	"path"
	"slices"
	"strings"
	"testing"

	"threadbare/api"
	"threadbare/text"
)

// The store is held against a map of paths.

type body struct {
	bytes  string
	folder bool
}

type opened struct {
	of      *body
	mode    string
	place   int
	pending []piece
}

type model struct {
	at      map[string]*body
	handles map[int]*opened
	last    int
}

// way returns what is wrong with what stands above a path.
func (m *model) way(p string) api.Errno {
	for i := 1; i < len(p); i++ {
		if p[i] != '/' {
			continue
		}
		switch b := m.at[p[:i]]; {
		case b == nil:
			return api.ErrNone
		case !b.folder:
			return api.ErrKind
		}
	}
	return api.OK
}

func (m *model) inside(p string) []string {
	var out []string
	for q := range m.at {
		if strings.HasPrefix(q, strings.TrimSuffix(p, "/")+"/") && q != "/" {
			out = append(out, q)
		}
	}
	slices.Sort(out)
	return out
}

func (m *model) write(p, bytes string) api.Errno {
	if e := m.way(p); e != api.OK {
		return e
	}
	if b := m.at[p]; b != nil && b.folder {
		return api.ErrKind
	} else if b != nil {
		b.bytes = bytes
	} else {
		m.at[p] = &body{bytes: bytes}
	}
	return api.OK
}

func (m *model) remove(p string, all bool) api.Errno {
	b := m.at[p]
	if b == nil {
		return api.ErrNone
	}
	if l := m.inside(p); p == "/" || b.folder && !all && len(l) > 0 {
		return api.ErrState
	} else {
		for _, q := range l {
			delete(m.at, q)
		}
	}
	delete(m.at, p)
	return api.OK
}

func (m *model) rename(from, to string) api.Errno {
	b, there := m.at[from], m.at[to]
	if b == nil {
		return api.ErrNone
	}
	if e := m.way(to); e != api.OK {
		return e
	}
	if from != "/" && from == to {
		return api.OK
	}
	if from == "/" || strings.HasPrefix(to, from+"/") || there != nil && (there.folder != b.folder || len(m.inside(to)) > 0) {
		return api.ErrState
	}
	for _, q := range m.inside(from) {
		m.at[to+q[len(from):]] = m.at[q]
		delete(m.at, q)
	}
	m.at[to] = b
	delete(m.at, from)
	return api.OK
}

func (m *model) copy(from, to string) api.Errno {
	b, there := m.at[from], m.at[to]
	switch {
	case b == nil:
		return api.ErrNone
	case b.folder:
		return api.ErrKind
	}
	if e := m.way(to); e != api.OK {
		return e
	}
	if from == to {
		return api.OK
	}
	if there != nil && there.folder {
		return api.ErrState
	}
	m.at[to] = &body{bytes: b.bytes}
	return api.OK
}

func (m *model) mkdir(p string) api.Errno {
	for q := p; q != "/"; q = path.Dir(q) {
		if b := m.at[q]; b != nil && !b.folder {
			return api.ErrKind
		}
	}
	for q := p; m.at[q] == nil; q = path.Dir(q) {
		m.at[q] = &body{folder: true}
	}
	return api.OK
}

func (m *model) open(p, mode string) (int, api.Errno) {
	if !strings.Contains(" r r+ w w+ a a+ ", " "+mode+" ") {
		return 0, api.ErrName
	}
	if e := m.way(p); e != api.OK {
		return 0, e
	}
	b := m.at[p]
	switch {
	case b != nil && b.folder:
		return 0, api.ErrKind
	case b == nil && mode[0] == 'r':
		return 0, api.ErrNone
	case len(m.handles) == 50:
		return 0, api.ErrLimit
	case b == nil:
		b = &body{}
		m.at[p] = b
	case mode[0] == 'w':
		b.bytes = ""
	}
	m.last++
	m.handles[m.last] = &opened{of: b, mode: mode}
	return m.last, api.OK
}

func (o *opened) flush() {
	for _, p := range o.pending {
		bytes := o.of.bytes
		if o.mode[0] == 'a' {
			p.at = len(bytes)
		}
		bytes += strings.Repeat("\x00", max(p.at-len(bytes), 0))
		o.of.bytes = bytes[:p.at] + p.bytes + bytes[min(p.at+len(p.bytes), len(bytes)):]
	}
	if len(o.pending) > 0 && o.mode[0] == 'a' {
		o.place = len(o.of.bytes)
	}
	o.pending = nil
}

func (o *opened) write(s string) {
	if s == "" {
		return
	}
	if o.mode[0] == 'a' && len(o.pending) == 0 {
		o.place = len(o.of.bytes)
	}
	o.pending = append(o.pending, piece{o.place, s})
	o.place += len(s)
}

func (m *model) show() string {
	out := ""
	for _, p := range m.inside("/") {
		if b := m.at[p]; b.folder {
			out += p + "/\n"
		} else {
			h := fnv.New64a()
			h.Write([]byte(b.bytes))
			out += fmt.Sprintf("%s %d %d\n", p, len(b.bytes), h.Sum64())
		}
	}
	return out
}

func TestAsAMap(t *testing.T) {
	r := rand.New(rand.NewSource(1))
	paths := []string{"/a", "/b", "/a/b", "/a/b/c", "/a/../b", "//a//c/", "/", "/b/a", "/./a/b/..", "/ab"}
	for range 500 {
		s, m := NewStore(), &model{at: map[string]*body{"/": {folder: true}}, handles: map[int]*opened{}}
		for range 40 {
			p, q := paths[r.Intn(len(paths))], paths[r.Intn(len(paths))]
			np, nq := path.Clean(p), path.Clean(q)
			bytes := []string{"", "x", "hello", "\x00"}[r.Intn(4)]
			h := r.Intn(m.last + 2)
			var got, want api.Errno
			what := r.Intn(16)
			switch {
			case what < 3:
				got, want = s.Make(p), m.mkdir(np)
			case what < 5:
				got, want = s.Put(p, bytes), m.write(np, bytes)
			case what == 5:
				all := r.Intn(2) == 0
				got, want = s.Delete(p, all), m.remove(np, all)
			case what == 6:
				got, want = s.Rename(p, q), m.rename(np, nq)
			case what == 7:
				got, want = s.Copy(p, q), m.copy(np, nq)
			case what == 8 && r.Intn(4) == 0:
				s.Crash()
				clear(m.handles)
			case what == 9 && r.Intn(4) == 0:
				if twin := s.Twin(); twin.Show() != s.Show() || twin.Bytes() != s.Bytes() {
					t.Fatalf("a twin: %s", twin.Show())
				}
			case what < 12:
				mode := []string{"r", "r+", "w", "w+", "a", "a+", "x"}[r.Intn(7)]
				n, e := s.Open(p, mode)
				wanted, wrong := m.open(np, mode)
				if got, want = e, wrong; n != wanted {
					t.Fatalf("Open(%q, %s) = %d, not %d", p, mode, n, wanted)
				}
			default:
				got, want = m.handled(t, r, s, h, bytes)
			}
			if got != want {
				t.Fatalf("call %d of %q, %q, %d: %d, not %d", what, p, q, h, got, want)
			}
			m.same(t, s, p, np)
		}
	}
}

// handled does something with a handle.
func (m *model) handled(t *testing.T, r *rand.Rand, s *Store, h int, bytes string) (got, want api.Errno) {
	o := m.handles[h]
	reads := o != nil && (o.mode == "r" || strings.HasSuffix(o.mode, "+"))
	writes := o != nil && o.mode != "r"
	n := r.Intn(9) - 1
	switch r.Intn(6) {
	case 0, 1:
		if got, want = s.Write(h, bytes), api.ErrState; writes {
			want = api.OK
			o.write(bytes)
		}
	case 2:
		told, e := s.Read(h, n)
		if got, want = e, api.ErrState; reads {
			o.flush()
			rest := o.of.bytes[min(o.place, len(o.of.bytes)):]
			if n >= 0 {
				rest = rest[:min(n, len(rest))]
			}
			o.place += len(rest)
			if want = api.OK; told != rest {
				t.Fatalf("Read(%d) = %q, not %q", n, told, rest)
			}
		}
	case 3:
		from := []string{"start", "here", "end", "x"}[r.Intn(4)]
		place, e := s.Seek(h, n, from)
		if got, want = e, api.ErrState; o != nil {
			if want = api.ErrName; from != "x" {
				o.flush()
				to := n + map[string]int{"start": 0, "here": o.place, "end": len(o.of.bytes)}[from]
				if want = api.ErrRange; to >= 0 {
					o.place, want = to, api.OK
					if place != to {
						t.Fatalf("Seek(%d, %s) = %d, not %d", n, from, place, to)
					}
				}
			}
		}
	case 4:
		if got, want = s.Flush(h), api.ErrState; o != nil {
			o.flush()
			want = api.OK
		}
	case 5:
		if got, want = s.CloseFile(h), api.ErrState; o != nil {
			o.flush()
			delete(m.handles, h)
			want = api.OK
		}
	}
	if o = m.handles[h]; o != nil {
		if place, e := s.Tell(h); place != o.place || e != api.OK {
			t.Fatalf("Tell = %d, %d, not %d (%s)", place, e, o.place, o.mode)
		}
	}
	return got, want
}

func (m *model) same(t *testing.T, s *Store, p, np string) {
	t.Helper()
	if s.Show() != m.show() || !slices.Equal(s.All(), m.inside("/")) {
		t.Fatalf("shown as\n%s, not\n%s", s.Show(), m.show())
	}
	total := 0
	for _, b := range m.at {
		total += len(b.bytes)
	}
	if s.Bytes() != total {
		t.Fatalf("Bytes = %d, not %d", s.Bytes(), total)
	}
	b := m.at[np]
	bytes, e := s.Get(p)
	kind, e2 := s.Kind(p)
	l, e3 := s.List(p, "[ab]")
	switch {
	case b == nil:
		if e != api.ErrNone || e2 != api.ErrNone || e3 != api.ErrNone {
			t.Fatalf("%q is there: %d, %d, %d", p, e, e2, e3)
		}
	case b.folder:
		var names []string
		for _, q := range m.inside(np) {
			if path.Dir(q) == np && text.Glob("[ab]", path.Base(q), false) {
				names = append(names, fmt.Sprint(api.Entry{Name: path.Base(q), Folder: m.at[q].folder, Size: len(m.at[q].bytes)}))
			}
		}
		var told []string
		for _, entry := range l {
			told = append(told, fmt.Sprint(entry))
		}
		if e != api.ErrKind || kind != 2 || e3 != api.OK || !slices.Equal(told, names) {
			t.Fatalf("the folder %q: %d, %d, %d, %q, not %q", p, e, kind, e3, told, names)
		}
	case bytes != b.bytes || e != api.OK || kind != 1 || e3 != api.ErrKind:
		t.Fatalf("the file %q: %q, %d, %d, %d", p, bytes, e, kind, e3)
	}
	var fit []string
	for _, q := range m.inside("/") {
		if ok, _ := path.Match("/a*/?", q); ok {
			fit = append(fit, q)
		}
	}
	if got, e := s.Glob("/a*/?"); !slices.Equal(got, fit) || e != api.OK {
		t.Fatalf("Glob = %q, not %q", got, fit)
	}
}

func TestPathsAsPlainOnes(t *testing.T) {
	r := rand.New(rand.NewSource(2))
	for range 8000 {
		b := make([]byte, r.Intn(9))
		for i := range b {
			b[i] = "ab./.../"[r.Intn(8)]
		}
		p := string(b)
		folder := []string{"/", "/x", "/x/y/../z", "//"}[r.Intn(4)]
		want := path.Clean("/" + p)
		if !strings.HasPrefix(p, "/") {
			want = path.Clean(folder + "/" + p)
		}
		if got, e := Normal(folder, p); got != want || e != api.OK {
			t.Fatalf("Normal(%q, %q) = %q, %d, not %q", folder, p, got, e, want)
		}
		parts := strings.FieldsFunc(p, func(c rune) bool { return c == '/' })
		if !slices.Equal(Parts(p), parts) {
			t.Fatalf("Parts(%q) = %q", p, Parts(p))
		}
		name, parent := "", ""
		if n := len(parts); n > 0 {
			name, parent = parts[n-1], strings.Join(parts[:n-1], "/")
		}
		if strings.HasPrefix(p, "/") {
			parent = "/" + parent
		} else if parent == "" {
			parent = "."
		}
		ending := ""
		if at := strings.LastIndex(name, "."); at > 0 {
			ending = name[at:]
		}
		if Name(p) != name || Parent(p) != parent || Ending(p) != ending {
			t.Fatalf("%q: %q, %q, %q, not %q, %q, %q", p, Name(p), Parent(p), Ending(p), name, parent, ending)
		}
		rel, e := Relative(folder, "/"+p)
		if back, e2 := Normal(folder, rel); e != api.OK || e2 != api.OK || back != path.Clean("/"+p) || rel == "" || strings.Contains(rel, "//") {
			t.Fatalf("Relative(%q, %q) = %q, %d, leads to %q", folder, "/"+p, rel, e, back)
		}
	}
}
