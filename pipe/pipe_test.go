package pipe

import (
	"math/rand"
	"strings"
	"testing"

	"threadbare/api"
)

func made(t *testing.T, in, out, flow string, size int) *Pipe {
	t.Helper()
	p, e := New(in, out, flow, size)
	if e != api.OK {
		t.Fatal(e)
	}
	return p
}

func TestReading(t *testing.T) {
	for _, c := range []struct{ raw, mode, open, rest, closed string }{
		{"a\r\nb\rc\n\r", "auto", "a\nb\nc\n", "\r", "a\nb\nc\n\n"}, {"a\r\nb\rc\r", "crlf", "a\nb\rc", "\r", "a\nb\rc\r"}, {"a\r\n\r", "cr", "a\n\n\n", "", "a\n\n\n"}, {"a\r\n\r", "lf", "a\r\n\r", "", "a\r\n\r"}, {"\r\r\n", "crlf", "\r\n", "", "\r\n"},
	} {
		s, rest, e := In(c.raw, c.mode, false)
		all, rest2, _ := In(c.raw, c.mode, true)
		if s != c.open || rest != c.rest || all != c.closed || rest2 != "" || e != 0 {
			t.Errorf("In(%q, %s) = %q, %q; closed %q", c.raw, c.mode, s, rest, all)
		}
		p := made(t, c.mode, "lf", "full", 10)
		for i := range len(c.raw) {
			p.Feed(c.raw[i : i+1])
		}
		one, _ := p.Read(-1)
		if one != c.open || p.Waiting() != len(c.rest) {
			t.Errorf("%s: %q was read, %d wait", c.mode, one, p.Waiting())
		}
	}
	if _, _, e := In("", "x", true); e != api.ErrName {
		t.Error("In of no mode")
	}
	p := made(t, "auto", "lf", "full", 1)
	state := func(want string) {
		t.Helper()
		got := ""
		for _, b := range []bool{p.Eof(), p.Blocked(), p.Ready()} {
			got += map[bool]string{true: "1", false: "0"}[b]
		}
		if got != want {
			t.Errorf("eof, blocked, ready: %s, not %s", got, want)
		}
	}
	state("000")
	p.Feed("ab\rc")
	state("001")
	if s, _ := p.Read(0); s != "" {
		t.Error("Read(0)")
	}
	state("001")
	if s, ok, _ := p.Line(); s != "ab" || !ok {
		t.Errorf("Line = %q", s)
	}
	state("000")
	if s, ok, _ := p.Line(); s != "" || ok || p.Waiting() != 1 {
		t.Errorf("Line = %q", s)
	}
	state("010")
	p.Feed("")
	state("000")
	if s, _ := p.Read(5); s != "c" {
		t.Error("Read(5)")
	}
	state("010")
	p.Feed("x")
	p.Read(-1)
	state("000")
	p.Feed("yz")
	if p.Close() != 0 || p.Close() != api.ErrState || p.Feed("") != api.ErrState {
		t.Error("Close")
	}
	state("001")
	p.Read(2)
	state("001")
	p.Read(1)
	state("101")
	if s, ok, _ := p.Line(); s != "" || ok {
		t.Error("Line at the end")
	}
	state("101")
	p = made(t, "lf", "lf", "full", 1)
	p.Feed("a\nb")
	p.Close()
	p.Line()
	state("001")
	if s, ok, _ := p.Line(); s != "b" || !ok {
		t.Error("the last line")
	}
	state("101")
	p = made(t, "cr", "lf", "full", 1)
	p.Feed("\r\n")
	a, _ := p.Read(1)
	p.Set("in", "auto")
	b, _ := p.Read(-1)
	if a != "\n" || b != "\n" {
		t.Errorf("read in two translations: %q, %q", a, b)
	}
}

func TestWriting(t *testing.T) {
	for _, c := range []struct {
		out, flow string
		size      int
		writes    []string
		went      string
		pending   int
	}{
		{"lf", "line", 100, []string{"ab\nc"}, "ab\n", 1}, {"lf", "none", 100, []string{"ab"}, "ab", 0}, {"lf", "full", 3, []string{"ab"}, "", 2}, {"lf", "full", 3, []string{"ab", "c"}, "abc", 0}, {"lf", "line", 3, []string{"abc"}, "abc", 0}, {"lf", "line", 3, []string{"ab\ncd"}, "ab\n", 2}, {"cr", "line", 9, []string{"a\nb\rc"}, "a\r", 3}, {"crlf", "line", 9, []string{"a\n\nb"}, "a\r\n\r\n", 1}, {"lf", "line", 9, nil, "", 0},
	} {
		p := made(t, "lf", c.out, c.flow, c.size)
		for _, s := range c.writes {
			p.Write(s)
		}
		if p.Pending() != c.pending {
			t.Errorf("%v: %d are pending", c, p.Pending())
		}
		if went := p.Out(); went != c.went || p.Out() != "" {
			t.Errorf("%v: %q went", c, went)
		}
	}
	p := made(t, "lf", "lf", "full", 1000)
	p.Write("a\nb")
	p.Set("buffering", "line")
	if p.Out() != "" {
		t.Error("Set lets something go out")
	}
	p.Write("c")
	if s := p.Out(); s != "a\n" {
		t.Errorf("%q went", s)
	}
	p.Flush()
	if s := p.Out(); s != "bc" || p.Pending() != 0 {
		t.Errorf("%q went by Flush", s)
	}
	p = made(t, "lf", "lf", "full", 1000000)
	million := strings.Repeat("x", 999999)
	p.Write(million)
	p.Set("size", "1000000")
	if e := p.Write(million + "xxx"); e != api.ErrLimit || p.Pending() != 999999 {
		t.Errorf("Write of too much: %d, %d", e, p.Pending())
	}
	p.Flush()
	p.Lay("hex")
	if e := p.Write(million + "x"); e != api.ErrLimit || p.Pending() != 0 || p.Write("y") != 0 || p.Pending() != 1 {
		t.Errorf("Write of too much behind a filter: %d, %d", e, p.Pending())
	}
	if s, e := Outward("a\nb", "crlf"); s != "a\r\nb" || e != 0 {
		t.Errorf("Outward = %q", s)
	}
	if _, e := Outward("", "auto"); e != api.ErrName {
		t.Error("Outward of no mode")
	}
}

func TestOptionsAndFilters(t *testing.T) {
	for _, c := range []struct {
		in, out, flow string
		size          int
		e             api.Errno
	}{{"x", "lf", "full", 0, 5}, {"lf", "auto", "full", 0, 5}, {"lf", "lf", "x", 0, 5}, {"lf", "lf", "none", 0, 7}, {"lf", "lf", "none", 1000001, 7}, {"auto", "crlf", "line", 1000000, 0}} {
		if p, e := New(c.in, c.out, c.flow, c.size); e != c.e || (p == nil) != (e != 0) {
			t.Errorf("New(%v): %d", c, e)
		}
	}
	p := made(t, "auto", "crlf", "line", 7)
	for _, c := range []struct {
		option, value string
		e             api.Errno
	}{{"in", "cr", 0}, {"in", "x", 5}, {"out", "auto", 5}, {"out", "lf", 0}, {"buffering", "none", 0}, {"buffering", "", 5}, {"size", "007", 7}, {"size", "0", 7}, {"size", "x", 7}, {"size", "+5", 7}, {"size", "12", 0}, {"mode", "x", 5}} {
		if e := p.Set(c.option, c.value); e != c.e {
			t.Errorf("Set(%s, %s): %d", c.option, c.value, e)
		}
		if v, e := p.Get(c.option); c.e == 0 && (v != c.value || e != 0) {
			t.Errorf("Get(%s) = %q", c.option, v)
		}
	}
	if _, e := p.Get("x"); e != api.ErrName {
		t.Error("Get of no option")
	}
	if p.Lift() != api.ErrNone || p.Lay("x") != api.ErrName {
		t.Error("Lift and Lay")
	}
	for range 5 {
		p.Lay("rot")
	}
	if p.Lay("rot") != api.ErrLimit || p.Lay("x") != api.ErrName {
		t.Error("Lay of too many")
	}
	p = made(t, "lf", "lf", "none", 1)
	p.Lay("hex")
	p.Lay("rot")
	if e := p.Feed("6e6"); e != 0 || p.Waiting() != 1 {
		t.Error("Feed through filters")
	}
	if e := p.Feed("Fzz"); e != api.ErrKind || p.Feed("") != api.ErrKind {
		t.Errorf("a broken pipe: %d", e)
	}
	if s, _ := p.Read(-1); s != "ab" {
		t.Errorf("%q came in", s)
	}
	p.Write("ab")
	if s := p.Out(); s != "6e6f" {
		t.Errorf("%q went out", s)
	}
	q := made(t, "lf", "lf", "none", 1)
	q.Lay("hex")
	q.Feed("4")
	q.Lift()
	q.Lay("hex")
	q.Feed("61")
	if s, _ := q.Read(-1); s != "a" {
		t.Errorf("a digit that waited in a lifted filter: %q", s)
	}
}

func TestNil(t *testing.T) {
	var p *Pipe
	_, e := p.Read(1)
	_, _, e2 := p.Line()
	_, e3 := p.Get("in")
	_, e4 := Carry(p, made(t, "lf", "lf", "none", 1), 1)
	for i, e := range []api.Errno{p.Feed(""), p.Close(), e, e2, e3, e4, p.Write(""), p.Flush(), p.Set("in", "lf"), p.Lay("x"), p.Lift()} {
		if e != api.ErrState {
			t.Errorf("call %d: %d", i, e)
		}
	}
	if p.Eof() || p.Blocked() || p.Ready() || p.Waiting() != 0 || p.Pending() != 0 || p.Out() != "" {
		t.Error("a nil pipe tells")
	}
}

func TestCarry(t *testing.T) {
	a, b := made(t, "auto", "lf", "none", 1), made(t, "lf", "crlf", "full", 100)
	a.Feed("ab\rcd")
	if n, e := Carry(a, b, 4); n != 4 || e != 0 || b.Pending() != 5 || a.Waiting() != 1 {
		t.Errorf("Carry: %d, %d", n, e)
	}
	if n, e := Carry(a, b, -1); n != 1 || e != 0 {
		t.Errorf("Carry of all: %d, %d", n, e)
	}
	if _, e := Carry(a, a, 1); e != api.ErrState {
		t.Error("Carry to itself")
	}
	full := made(t, "lf", "lf", "none", 1)
	full.Write(strings.Repeat("x", 2000000))
	a.Feed("yz")
	if n, e := Carry(a, full, -1); n != 0 || e != api.ErrLimit || a.Waiting() != 2 {
		t.Errorf("Carry to a full pipe: %d, %d", n, e)
	}
}

func TestHoweverCut(t *testing.T) {
	r := rand.New(rand.NewSource(1))
	for range 2000 {
		s := ""
		for range r.Intn(12) {
			s += string("ab\r\n"[r.Intn(4)])
		}
		mode := []string{"lf", "cr", "crlf", "auto"}[r.Intn(4)]
		want, _, _ := In(s, mode, true)
		p, lines := made(t, mode, "lf", "full", 1), made(t, mode, "lf", "full", 1)
		for rest := s; rest != ""; {
			n := 1 + r.Intn(len(rest))
			p.Feed(rest[:n])
			lines.Feed(rest[:n])
			rest = rest[n:]
		}
		p.Close()
		lines.Close()
		got := ""
		for !p.Eof() {
			piece, _ := p.Read(1 + r.Intn(4))
			got += piece
		}
		told := ""
		for {
			l, ok, _ := lines.Line()
			if !ok {
				break
			}
			told += l
			if !lines.Eof() {
				told += "\n"
			}
		}
		if got != want || told != want {
			t.Fatalf("%q by %s: %q, by lines %q, not %q", s, mode, got, told, want)
		}
		out := []string{"lf", "cr", "crlf"}[r.Intn(3)]
		w := made(t, out, out, []string{"none", "line", "full"}[r.Intn(3)], 1+r.Intn(9))
		back := made(t, out, "lf", "none", 1)
		for range r.Intn(4) {
			f := []string{"rot", "hex"}[r.Intn(2)]
			w.Lay(f)
			back.Lay(f)
		}
		plain := strings.ReplaceAll(s, "\r", "")
		for rest := plain; rest != ""; {
			n := 1 + r.Intn(len(rest))
			w.Write(rest[:n])
			rest = rest[n:]
		}
		w.Flush()
		back.Feed(w.Out())
		back.Close()
		if got, _ := back.Read(-1); got != plain {
			t.Fatalf("%q by %s came back as %q", plain, out, got)
		}
	}
}
