package files

import (
	"slices"
	"strconv"
	"strings"
	"testing"

	"threadbare/api"
)

func TestPaths(t *testing.T) {
	long := strings.Repeat("x", 61)
	deep := strings.Repeat("/"+long[:59], 17)
	for _, c := range []struct {
		folder, path, want string
		e                  api.Errno
	}{{"/a/x", "../b//c/.", "/a/b/c", 0}, {"/", "../..", "/", 0}, {"/a", "", "/a", 0}, {"/a", "/b/", "/b", 0}, {"a", "b", "", 1}, {"/a", "b\x00", "", 1}, {"/", strings.Repeat("a", 1001), "", 1}, {"/", long, "", api.ErrLong}, {"/", long + "/..", "/", 0}, {deep[:600], deep[:600], deep[:600], 0}, {deep[:600], deep[1:600], "", api.ErrLong}, {"", "", "", 1}} {
		s, e := Normal(c.folder, c.path)
		if s != c.want || e != c.e {
			t.Errorf("Normal(%.20q, %.20q) = %.20q, %d", c.folder, c.path, s, e)
		}
	}
	for path, want := range map[string][4]string{"/a/b.c": {"/a", "b.c", ".c", "a b.c"}, "a": {".", "a", "", "a"}, "": {".", "", "", ""}, "/": {"/", "", "", ""}, "//a//.b/": {"/a", ".b", "", "a .b"}, "a/b.c.d": {"a", "b.c.d", ".d", "a b.c.d"}, "..": {".", "..", ".", ".."}, "/x.": {"/", "x.", ".", "x."}} {
		got := [4]string{Parent(path), Name(path), Ending(path), strings.Join(Parts(path), " ")}
		if got != want {
			t.Errorf("%q: %q", path, got)
		}
	}
	for _, c := range [][3]string{{"/a/b", "/a/c/d", "../c/d"}, {"/a", "/a", "."}, {"/", "/a/./b", "a/b"}, {"/a/b", "/", "../.."}} {
		s, e := Relative(c[0], c[1])
		if s != c[2] || e != 0 {
			t.Errorf("Relative(%q, %q) = %q", c[0], c[1], s)
		}
		back, _ := Normal(c[0], s)
		if want, _ := Normal("/", c[1]); back != want {
			t.Errorf("Normal of Relative = %q", back)
		}
	}
	if _, e := Relative("a", "/b"); e != api.ErrInvalid {
		t.Error("Relative from no absolute path")
	}
}

func filled(t *testing.T) *Store {
	s := NewStore()
	for _, e := range []api.Errno{s.Make("/a/b"), s.Make("/e"), s.Put("/a/f", "hello"), s.Put("/a/b/g", "abc"), s.Put("/z", "")} {
		if e != api.OK {
			t.Fatal(e)
		}
	}
	return s
}

func TestStore(t *testing.T) {
	s := filled(t)
	if got := strings.Join(s.All(), " "); got != "/a /a/b /a/b/g /a/f /e /z" || s.Bytes() != 8 {
		t.Errorf("All = %s, %d bytes", got, s.Bytes())
	}
	long := "/" + strings.Repeat("x", 61)
	big := strings.Repeat("x", 1000001)
	show := s.Show()
	get := func(p string) api.Errno { _, e := s.Get(p); return e }
	kind := func(p string) api.Errno { _, e := s.Kind(p); return e }
	list := func(p string) api.Errno { _, e := s.List(p, "*"); return e }
	open := func(p, m string) api.Errno { _, e := s.Open(p, m); return e }
	for i, c := range []struct{ got, want api.Errno }{
		{s.Make("a"), 1}, {s.Make(long), 3}, {s.Make("/a/f"), 11}, {s.Make("/z/y"), 11}, {s.Make("/a"), 0}, {s.Make("/" + strings.Repeat("q/", 195)), 4},
		{s.Put("x", ""), 1}, {s.Put(long, ""), 3}, {s.Put("/q/x", ""), 8}, {s.Put("/z/x", ""), 11}, {s.Put("/z/q/x", ""), 11}, {s.Put("/a", ""), 11}, {s.Put("/", ""), 11}, {s.Put("/big", big), 4}, {s.Put("/z", big[:999993]), 4},
		{get("/q"), 8}, {get("/a"), 11}, {get("/"), 11}, {get("/z/x"), 8}, {get("z"), 1}, {get(long), 8}, {kind("/q"), 8}, {kind("/z/x"), 8}, {list("/q"), 8}, {list("/z"), 11}, {list("/z/x"), 8},
		{s.Delete("/q", true), 8}, {s.Delete("/", true), 9}, {s.Delete("/a", false), 9}, {s.Delete("/z/x", true), 8}, {s.Delete("x", true), 1},
		{s.Rename("/q", "/z/x"), 8}, {s.Rename("/a", "/q/x"), 8}, {s.Rename("/a", "/z/x"), 11}, {s.Rename("/", "/"), 9}, {s.Rename("/", "/q"), 9}, {s.Rename("/a", "/a/b/c"), 9}, {s.Rename("/e", "/a"), 9}, {s.Rename("/z", "/e"), 9}, {s.Rename("/e", "/z"), 9}, {s.Rename("/z", "/"), 9}, {s.Rename("/z", long), 3}, {s.Rename("/a", "/./a"), 0}, {s.Rename("/a", "x"), 1}, {s.Rename("/z", "/z/x"), 11},
		{s.Copy("/q", "/x"), 8}, {s.Copy("/a", "/q/q"), 11}, {s.Copy("/z", "/q/x"), 8}, {s.Copy("/a/f", "/z/x"), 11}, {s.Copy("/z", "/e"), 9}, {s.Copy("/z", "/"), 9}, {s.Copy("/z", long), 3}, {s.Copy("/z", "//z"), 0},
		{open("/z", "x"), 5}, {open("/q", "r"), 8}, {open("/q/x", "w"), 8}, {open("/z/x", "w"), 11}, {open("/a", "r"), 11}, {open("/", "w"), 11}, {open(long, "w"), 3}, {open(long, "r"), 8}, {open("z", "y"), 1},
	} {
		if c.got != c.want {
			t.Errorf("case %d: %d, not %d", i, c.got, c.want)
		}
	}
	if s.Show() != show {
		t.Error("a refused call changes something")
	}
	if show != "/a/\n/a/b/\n/a/b/g 3 "+strconv.FormatUint(hash("abc"), 10)+"\n/a/f 5 "+strconv.FormatUint(hash("hello"), 10)+"\n/e/\n/z 0 14695981039346656037\n" {
		t.Errorf("Show = %q", show)
	}
	l, _ := s.List("/a", "*")
	if !slices.Equal(l, []api.Entry{{Name: "b", Folder: true}, {Name: "f", Size: 5}}) {
		t.Errorf("List = %v", l)
	}
	for pattern, want := range map[string]string{"/*": "/a /e /z", "/a/*": "/a/b /a/f", "/?/?/g": "/a/b/g", "/": "", "//a//f": "/a/f", "/a/.": "", "/[ez]": "/e /z"} {
		if g, e := s.Glob(pattern); strings.Join(g, " ") != want || e != 0 {
			t.Errorf("Glob(%q) = %q", pattern, g)
		}
	}
	if _, e := s.Glob("a"); e != api.ErrInvalid {
		t.Error("Glob of a relative pattern")
	}
	twin := s.Twin()
	if twin.Show() != show || twin.Bytes() != s.Bytes() {
		t.Error("a twin is another one")
	}
	if s.Rename("/a", "/e/c") != 0 || s.Rename("/e/c", "/a") != 0 || s.Show() != show {
		t.Error("Rename there and back")
	}
	if s.Rename("/a/b", "/e") != 0 || s.Copy("/a/f", "/z") != 0 || s.Bytes() != 13 || s.Delete("/a", true) != 0 || s.Bytes() != 8 {
		t.Errorf("changes: %d bytes", s.Bytes())
	}
	if b, _ := s.Get("/z"); b != "hello" || strings.Join(s.All(), " ") != "/e /e/g /z" || twin.Show() != show {
		t.Errorf("behind changes: %q", s.All())
	}
	deep := filled(t)
	deep.Make("/" + strings.TrimSuffix(strings.Repeat(strings.Repeat("d", 60)+"/", 15), "/"))
	if e := deep.Rename("/"+strings.Repeat("d", 60), "/a/b/"+strings.Repeat("e", 60)); e != 0 {
		t.Errorf("Rename of a deep folder: %d", e)
	}
	deep.Make("/p/" + strings.Repeat("e", 60) + "/" + strings.Repeat("e", 60))
	if e := deep.Rename("/a/b", "/p/"+strings.Repeat("e", 60)+"/"+strings.Repeat("e", 60)); e != api.ErrLong {
		t.Errorf("Rename of a folder with a path that is too long then: %d", e)
	}
	full := NewStore()
	for i := range 200 {
		full.Put("/"+strconv.Itoa(i), "")
	}
	if full.Put("/x", "") != api.ErrLimit || full.Make("/x") != api.ErrLimit || full.Copy("/1", "/x") != api.ErrLimit || full.Copy("/1", "/2") != 0 || full.Rename("/1", "/x") != 0 {
		t.Error("a full store")
	}
	if _, e := full.Open("/y", "w"); e != api.ErrLimit {
		t.Error("Open in a full store")
	}
}

func TestHandles(t *testing.T) {
	s := filled(t)
	h, _ := s.Open("/a/f", "r+")
	s.Write(h, "J")
	if b, _ := s.Get("/a/f"); b != "hello" {
		t.Errorf("before Flush: %q", b)
	}
	if n, _ := s.Tell(h); n != 1 || h != 1 {
		t.Errorf("Tell = %d", n)
	}
	s.Flush(h)
	if b, _ := s.Get("/a/f"); b != "Jello" {
		t.Errorf("behind Flush: %q", b)
	}
	if r, e := s.Read(h, 2); r != "el" || e != 0 {
		t.Errorf("Read = %q", r)
	}
	if n, e := s.Seek(h, 2, "end"); n != 7 || e != 0 {
		t.Errorf("Seek = %d, %d", n, e)
	}
	s.Write(h, "!")
	if r, e := s.Read(h, -1); r != "" || e != 0 {
		t.Errorf("Read = %q", r)
	}
	if b, _ := s.Get("/a/f"); b != "Jello\x00\x00!" || s.Bytes() != 11 {
		t.Errorf("with a gap: %q", b)
	}
	a, _ := s.Open("/a/f", "a+")
	if n, _ := s.Tell(a); n != 0 {
		t.Error("the place of a new handle")
	}
	s.Write(a, "xy")
	s.Write(a, "")
	s.Seek(h, 0, "start")
	s.Write(h, "123456789")
	s.Flush(h)
	if n, _ := s.Tell(a); n != 10 {
		t.Errorf("Tell of what is pending = %d", n)
	}
	s.Flush(a)
	if n, _ := s.Tell(a); n != 11 {
		t.Errorf("Tell behind a flush = %d", n)
	}
	if b, _ := s.Get("/a/f"); b != "123456789xy" {
		t.Errorf("appended: %q", b)
	}
	s.Seek(a, -2, "end")
	if r, _ := s.Read(a, 9); r != "xy" {
		t.Errorf("Read of what was appended: %q", r)
	}
	w, _ := s.Open("/a/f", "w")
	if r, _ := s.Read(h, -1); r != "" || s.Bytes() != 3 {
		t.Error("Open of w makes the file empty at once")
	}
	for i, c := range []struct{ got, want api.Errno }{
		{func() api.Errno { _, e := s.Read(w, 1); return e }(), 9}, {s.Write(99, ""), 9}, {s.Flush(0), 9}, {s.CloseFile(99), 9}, {func() api.Errno { _, e := s.Seek(w, 0, "x"); return e }(), 5}, {func() api.Errno { _, e := s.Seek(w, -1, "start"); return e }(), 7}, {func() api.Errno { _, e := s.Seek(w, 1<<62, "here"); return e }(), 7}, {func() api.Errno { _, e := s.Seek(w, 1000001, "start"); return e }(), 7}, {func() api.Errno { _, e := s.Seek(99, 0, "x"); return e }(), 9}, {func() api.Errno { _, e := s.Tell(99); return e }(), 9}, {s.Write(w, strings.Repeat("x", 1000001)), 4},
	} {
		if c.got != c.want {
			t.Errorf("case %d: %d, not %d", i, c.got, c.want)
		}
	}
	r, _ := s.Open("/z", "r")
	if s.Write(r, "") != api.ErrState || s.CloseFile(r) != 0 || s.CloseFile(r) != api.ErrState {
		t.Error("a handle for reading")
	}
	s.Write(w, strings.Repeat("x", 999998))
	if s.Flush(w) != api.ErrLimit || s.Flush(w) != 0 || s.Bytes() != 3 {
		t.Error("Flush of too much")
	}
	s.Seek(w, 0, "start")
	s.Write(w, strings.Repeat("x", 999998))
	if _, e := s.Seek(w, -5, "start"); e != api.ErrLimit {
		t.Error("Seek with a flush of too much")
	}
}

func TestGone(t *testing.T) {
	s := filled(t)
	h, _ := s.Open("/a/f", "r+")
	g, _ := s.Open("/a/b/g", "r+")
	s.Rename("/a/f", "/y")
	s.Write(h, "H")
	s.Flush(h)
	if b, _ := s.Get("/y"); b != "Hello" {
		t.Errorf("a renamed file: %q", b)
	}
	s.Copy("/z", "/y")
	s.Write(h, "XX")
	s.Flush(h)
	s.Seek(h, 0, "start")
	if r, _ := s.Read(h, -1); r != "HXXlo" || s.Bytes() != 3 {
		t.Errorf("a replaced file: %q, %d", r, s.Bytes())
	}
	s.Delete("/a", true)
	s.Write(g, strings.Repeat("x", 1000000))
	if s.Flush(g) != 0 || s.Bytes() != 0 {
		t.Error("a deleted file")
	}
	k, _ := s.Open("/z", "w")
	s.Write(k, "kept")
	s.Flush(k)
	s.Write(k, "lost")
	s.Crash()
	if b, _ := s.Get("/z"); b != "kept" || s.Flush(k) != api.ErrState {
		t.Errorf("behind a crash: %q", b)
	}
	for range 50 {
		s.Open("/z", "r")
	}
	if h, e := s.Open("/z", "w"); h != 0 || e != api.ErrLimit {
		t.Error("too many handles")
	}
	if b, _ := s.Get("/z"); b != "kept" {
		t.Error("a refused Open makes the file empty")
	}
	twin := s.Twin()
	if h, _ := twin.Open("/z", "r"); h != 1 {
		t.Error("a twin's handles")
	}
	var none *Store
	_, e := none.Get("/")
	_, e2 := none.Open("/", "r")
	_, e3 := none.Read(1, 1)
	if e != 1 || e2 != 1 || e3 != 1 || none.Make("/a") != 1 || none.Flush(1) != 1 || none.All() != nil || none.Bytes() != 0 || none.Show() != "" || none.Twin() != nil {
		t.Error("a nil store")
	}
	none.Crash()
}

func TestFarPlaces(t *testing.T) {
	s := NewStore()
	s.Put("/f", "")
	a, _ := s.Open("/f", "a+")
	b, _ := s.Open("/f", "a")
	s.Delete("/f", false)
	half := strings.Repeat("x", 900000)
	if s.Write(a, half) != api.OK || s.Write(b, half) != api.OK || s.Flush(a) != api.OK || s.Flush(b) != api.OK {
		t.Fatal("a file that is gone does not grow")
	}
	if n, e := s.Seek(a, -1700000, "end"); n != 100000 || e != api.OK {
		t.Errorf("Seek from the end of a long file: %d, %d", n, e)
	}
	for _, n := range []int{-1800001, 0, -1 << 63, 1<<63 - 1} {
		if _, e := s.Seek(a, n, "end"); e != api.ErrRange {
			t.Errorf("Seek of %d from the end: %d", n, e)
		}
	}
}
