package host

import (
	"fmt"
	"math/rand"
	"slices"
	"strings"
	"testing"

	"threadbare/api"
)

func script(s string) api.Event { return api.Event{Kind: api.EScript, Text: s, N: 2000} }

func TestLines(t *testing.T) {
	for line, e := range map[string]api.Event{"script 100 puts%20hi": {Kind: 1, N: 100, Text: "puts hi"}, "script 0 -": {Kind: 1}, "script 5 %2D": {Kind: 1, N: 5, Text: "-"}, "feed stdin a%0A": {Kind: 2, Name: "stdin", Text: "a\n"}, "feed %2D -": {Kind: 2, Name: "-"}, "close pipe1": {Kind: 3, Name: "pipe1"}, "time 1000000000": {Kind: 4, N: 1000000000}, "script 1 --": {Kind: 1, N: 1, Text: "--"}} {
		got, n := Write(e)
		back, n2 := Read(line)
		if got != line || n != 0 || back != e || n2 != 0 || !Valid(e) {
			t.Errorf("Write(%v) = %q, %d; Read = %v, %d", e, got, n, back, n2)
		}
	}
	for _, e := range []api.Event{{}, {Kind: 5}, {Kind: -1}, {Kind: 1, N: -1}, {Kind: 1, N: 100001}, {Kind: 1, Name: "x"}, {Kind: 1, Text: strings.Repeat("x", 65537)}, {Kind: 2, Text: "x"}, {Kind: 2, Name: "x", N: 1}, {Kind: 2, Name: "x", Text: strings.Repeat("x", 65537)}, {Kind: 3}, {Kind: 3, Name: "x", Text: "y"}, {Kind: 3, Name: "x", N: 1}, {Kind: 4, N: -1}, {Kind: 4, N: 1000000001}, {Kind: 4, Name: "x"}, {Kind: 4, Text: "x"}} {
		s, n := Write(e)
		_, _, _, n2 := New().Do(e)
		if Valid(e) || s != "" || n != api.ErrInvalid || n2 != api.ErrInvalid {
			t.Errorf("%v is valid", e)
		}
	}
	for _, line := range []string{"", "script", "script 1", "script 1 ", "script 01 a", "script 1 a b", "script 1 %2d", "script 1 a%", "script 1  a", "feed - a", "feed a", "close -", "close a b", "time", "time 1 2", "time -1", "time +1", "quit", "script 1 %61", " time 1", "time 1\n"} {
		e, n := Read(line)
		_, _, _, n2 := New().Line(line)
		if e != (api.Event{}) || n != api.ErrSyntax || n2 != api.ErrCommand {
			t.Errorf("Read(%q) = %v, %d, %d", line, e, n, n2)
		}
	}
}

func TestDo(t *testing.T) {
	h := New()
	o, out, err, n := h.Do(api.Event{Kind: 1, N: 100, Text: "puts hi; puts stderr e; puts -nonewline later"})
	if o != (api.Outcome{}) || out != "hi\n" || err != "e\n" || n != 0 {
		t.Errorf("Do = %v, %q, %q, %d", o, out, err, n)
	}
	if _, out, _, _ := h.Do(script("flush stdout; event stdin readable {puts [gets stdin]; if {[eof stdin]} {event stdin readable {}}}")); out != "later" {
		t.Errorf("later: %q", out)
	}
	if o, out, _, n := h.Do(api.Event{Kind: 2, Name: "stdin", Text: "a\nb\nc"}); o.Code != 0 || out != "a\nb\n" || n != 0 {
		t.Errorf("feed: %v, %q, %d", o, out, n)
	}
	if _, out, _, n := h.Line("close stdin"); out != "c\n" || n != 0 {
		t.Errorf("close: %q, %d", out, n)
	}
	if o, _, _, _ := h.Do(script("after 10 {puts timer}; set x 1; return -code break q")); o.Code != 2 || o.Then != 3 || o.Text != "q" {
		t.Errorf("%v", o)
	}
	if _, out, _, n := h.Do(api.Event{Kind: 4, N: 20}); out != "timer\n" || n != 0 || h.Now() != 20 {
		t.Errorf("time: %q", out)
	}
	book, dump := h.Book(), h.Dump()
	for i, c := range []struct {
		e api.Event
		n api.Errno
	}{{api.Event{Kind: 2, Name: "stdin", Text: "x"}, 9}, {api.Event{Kind: 3, Name: "stdin"}, 9}, {api.Event{Kind: 2, Name: "q"}, 5}, {api.Event{Kind: 2, Name: "stdout"}, 11}, {api.Event{Kind: 3, Name: "stderr"}, 11}, {api.Event{}, 1}} {
		o, out, err, n := h.Do(c.e)
		if n != c.n || o != (api.Outcome{}) || out != "" || err != "" {
			t.Errorf("case %d: %d, not %d", i, n, c.n)
		}
	}
	if h.Book() != book || h.Dump() != dump || h.Count() != 6 {
		t.Error("a refused event changes something")
	}
	if o, _, _, n := h.Do(api.Event{Kind: 1, N: 3, Text: "while 1 {}"}); o.Code != api.CStop || n != 0 || h.Count() != 7 {
		t.Errorf("CStop: %v", o)
	}
	h.Do(script("file put /a b"))
	if !slices.Equal(h.Files(), []string{"/a", "b"}) || !slices.Contains(h.Commands(), "::package") || !slices.IsSorted(h.Commands()) {
		t.Errorf("Files = %q", h.Files())
	}
	b := New()
	b.Do(script("lay stdin hex; event stdin readable {puts [read stdin]}; pair"))
	if o, _, _, n := b.Do(api.Event{Kind: 2, Name: "stdin", Text: "61zz"}); n != 0 || o.Code != 0 || b.Count() != 2 {
		t.Errorf("a channel that becomes broken: %d", n)
	}
	if _, _, _, n := b.Do(api.Event{Kind: 2, Name: "pipe1", Text: "x"}); n != 0 {
		t.Errorf("a side of a pair: %d", n)
	}
	_, _, _, closed := b.Line("close stdin")
	if _, _, _, n := b.Do(api.Event{Kind: 2, Name: "stdin", Text: "61"}); closed != 0 || n != 0 || b.Count() != 5 {
		t.Errorf("a channel that is broken and closed: %d, %d", closed, n)
	}
	if r, k, n := Replay(b.Book()); r == nil || k != 5 || n != 0 || r.Book() != b.Book() {
		t.Errorf("its book: %d, %d", k, n)
	}
	var none *Host
	if _, _, _, n := none.Do(api.Event{}); n != api.ErrState || none.Dump() != "" || none.Files() != nil || none.Now() != 0 || none.Commands() != nil || none.Book() != "" || none.Count() != 0 {
		t.Error("a nil session")
	}
	none.Forget()
	none.Faces(true)
	full := New()
	for range 1000 {
		full.Do(api.Event{Kind: 4})
	}
	if _, _, _, n := full.Do(api.Event{Kind: 4}); n != api.ErrLimit || full.Count() != 1000 {
		t.Errorf("a full book: %d", n)
	}
	if _, _, _, n := full.Do(api.Event{}); n != api.ErrInvalid {
		t.Errorf("ErrInvalid comes before ErrLimit: %d", n)
	}
	if r, k, n := Replay(full.Book()); r == nil || k != 1000 || n != 0 {
		t.Errorf("a full book: %d, %d", k, n)
	}
	longer := full.Book() + bookLine(api.Line{Number: 1000, Text: "time 0", Sum: summed(full.kept.sum, "time 0")})
	if l, _, n := Lines(longer); l != nil || n != api.ErrLimit {
		t.Errorf("too long a book: %d", n)
	}
}

func TestBooks(t *testing.T) {
	h := New()
	h.Do(script("set x 1"))
	h.Do(api.Event{Kind: 4, N: 5})
	book := h.Book()
	l, torn, e := Lines(book)
	if len(l) != 2 || torn || e != 0 || l[0] != (api.Line{Number: 0, Text: "script 2000 set%20x%201", Sum: l[0].Sum}) || !strings.HasPrefix(book, "0 "+hex(l[0].Sum)+" script 2000 set%20x%201\n1 ") {
		t.Errorf("Lines = %v, %t, %d of %q", l, torn, e, book)
	}
	if l[0].Sum != summed(0, l[0].Text) || hex(10) != "000000000000000a" {
		t.Error("sums")
	}
	first := strings.IndexByte(book, '\n') + 1
	for _, c := range []struct {
		book  string
		lines int
		torn  bool
		e     api.Errno
	}{{"", 0, false, 0}, {book[:first], 1, false, 0}, {book[:first+3], 1, true, 0}, {book[:5], 0, true, 0}, {"x\n" + book, 0, false, 12}, {book[:first] + "x\n", 1, false, 12}, {strings.Replace(book, "201\n", "202\n", 1), 0, false, 12}, {book[first:], 0, false, 12}, {book[:first] + "\n", 1, false, 12}, {strings.Repeat("x", 5000001), 0, false, 3}, {strings.ToUpper(book), 0, false, 12}} {
		l, torn, e := Lines(c.book)
		if len(l) != c.lines || torn != c.torn || e != c.e {
			t.Errorf("Lines(%.40q) = %d lines, %t, %d", c.book, len(l), torn, e)
		}
		r, n, e := Replay(c.book)
		if e != c.e || e == 0 && (r == nil || n != c.lines || r.Count() != n) || e != 0 && (r != nil || n != 0) {
			t.Errorf("Replay(%.40q) = %d, %d", c.book, n, e)
		}
	}
	other := New()
	other.Do(script("set x 1"))
	other.Do(api.Event{Kind: 4, N: 6})
	if n, e := Parting(book, other.Book()); n != 1 || e != 0 {
		t.Errorf("Parting = %d, %d", n, e)
	}
	if n, e := Parting(book, "x\n"); n != 0 || e != api.ErrSum {
		t.Errorf("Parting = %d, %d", n, e)
	}
	if n, e := Parting(book, book+"torn"); n != 2 || e != 0 {
		t.Errorf("Parting = %d, %d", n, e)
	}
	refused := bookLine(api.Line{Text: "time 1", Sum: summed(0, "time 1")})
	refused += bookLine(api.Line{Number: 1, Text: "close q", Sum: summed(summed(0, "time 1"), "close q")})
	if r, n, e := Replay(refused); r != nil || n != 1 || e != api.ErrSum {
		t.Errorf("Replay of a refused event: %d, %d", n, e)
	}
	o, out, e := Play([]api.Event{script("puts a; set x 1"), script("puts b; error q")})
	if len(o) != 2 || o[0].Text != "1" || o[1].Code != 1 || out != "a\nb\n" || e != 0 {
		t.Errorf("Play = %v, %q, %d", o, out, e)
	}
	if o, out, e := Play([]api.Event{script("puts a"), {}}); o != nil || out != "" || e != api.ErrInvalid {
		t.Errorf("Play of a refused event: %v, %q, %d", o, out, e)
	}
}

// pieces are scripts that touch all layers; a session is made of some of them.
func pieces() []string {
	return []string{
		"set x [list a {b c} 5]", "lappend x $x; llength $x", "proc f {a {b 2} args} {global n; incr n; list $a $b $args}", "f 1", "f {*}$x", "for {set i 0} {$i < 5} {incr i} {lappend l $i}; set l", "lsort -command {string compare} {b a c}", "dict set d a b [expr {$n * 2}]", "dict for {k v} $d {append s $k=$v}", "namespace eval ns {variable v 1; proc g {} {variable v; incr v}; namespace export g}", "catch {namespace import ns::g}; g", "trace add variable n write {lappend log}", "set log", "interp create c", "interp eval c {set x 5; proc h {} {return $::x}; h}", "interp alias c up {} set x", "interp eval c {up 7}", "interp create -safe s; interp eval s {puts safe}", "class create k {{field z} {constructor {} {set z 0}} {method inc {} {incr z}}}; k create o", "o inc", "[k new] inc", "puts [clock format 0 %Y]", "set fh [open /file a+]; puts $fh line; close $fh", "file get /file", "after 5 {puts tick; after 3 {incr n}}", "after idle {puts idle}", "update", "event stdin readable {lappend in [gets stdin]}", "regsub -all {(\\w+) (\\w+)} {ab cd ef gh} {\\2 \\1}", "package require tally; tally::count $l", "package require csv; csv::line $x", "rename f ff", "rename ff f", "expr {[llength $x] > 3 ? \"many\" : \"few\"}", "string map {a 1 b 2} $x", "format %05d|%x [incr n] 255", "interp delete c", "namespace delete ns", "object delete o", "vwait n", "array set arr {x 1 y 2}; array get arr", "unset x", "eval {error oops}", "while 1 {incr w}", "lmap q {1 2 3} {expr {$q ** 2}}", "proc t n {if {$n == 0} {return end}; tailcall t [expr {$n - 1}]}; t 20", "try {error e} on error m {set m} finally {incr n}", "switch -glob abc {a* {set hit 1}}", "info commands k*; info vars", "steps", "class delete k", "bgerrors; info level", "interp share {} n c m",
	}
}

func randomEvent(r *rand.Rand) api.Event {
	switch r.Intn(8) {
	case 0:
		return api.Event{Kind: api.ETime, N: r.Intn(12)}
	case 1:
		return api.Event{Kind: api.EFeed, Name: "stdin", Text: []string{"a\nb", "c\n", ""}[r.Intn(3)]}
	}
	l := pieces()
	return script(l[r.Intn(len(l))])
}

func told(h *Host, e api.Event) string {
	o, out, err, n := h.Do(e)
	return fmt.Sprintf("%v|%s|%s|%d", o, out, err, n)
}

func state(h *Host) string {
	return h.Dump() + "|" + strings.Join(h.Files(), ",") + "|" + fmt.Sprint(h.Now()) + "|" + strings.Join(h.Commands(), " ")
}

func TestReplay(t *testing.T) {
	r := rand.New(rand.NewSource(11))
	for range 60 {
		h, off, forgets := New(), New(), New()
		off.Faces(false)
		for i := range 40 {
			e := randomEvent(r)
			a := told(h, e)
			if b := told(off, e); a != b {
				t.Fatalf("%q without faces: %s, not %s", e.Text, b, a)
			}
			if r.Intn(2) == 0 {
				forgets.Forget()
			}
			forgets.Faces(r.Intn(3) > 0)
			if b := told(forgets, e); a != b {
				t.Fatalf("%q with faces forgotten: %s, not %s", e.Text, b, a)
			}
			if i%13 != 0 {
				continue
			}
			again, n, wrong := Replay(h.Book())
			if wrong != api.OK || n != h.Count() || state(again) != state(h) {
				t.Fatalf("Replay: %d, %d\n%s\n%s", n, wrong, state(again), state(h))
			}
			later := randomEvent(r)
			other, _, _ := Replay(h.Book())
			if told(again, later) != told(other, later) || state(again) != state(other) {
				t.Fatalf("%q behind a replay", later.Text)
			}
		}
		if state(off) != state(h) || state(forgets) != state(h) || off.Book() != h.Book() {
			t.Fatal("sessions that were told the same are different")
		}
		book := h.Book()
		for range 5 {
			if part, n, wrong := Replay(book[:r.Intn(len(book)+1)]); part == nil || wrong != api.OK || part.Count() != n {
				t.Fatalf("a beginning: %d, %d", n, wrong)
			}
		}
	}
}
