package inout

import (
	"fmt"
	"math/rand"
	"strconv"
	"strings"
	"testing"

	"threadbare/api"
	"threadbare/pipe"
)

// Files are read as a closed pipe with all of their bytes is.
func TestFilesAsPipes(t *testing.T) {
	r := rand.New(rand.NewSource(1))
	for range 300 {
		content := ""
		for range r.Intn(8) {
			content += strings.Repeat("x", []int{0, 1, 3, 4095, 4096, 9000}[r.Intn(6)]) + []string{"\n", "\r\n", "\r", "\r\r\n", ""}[r.Intn(5)]
		}
		mode := []string{"auto", "lf", "cr", "crlf"}[r.Intn(4)]
		x := New()
		x.Set("content", content)
		if o := x.Eval("file put /a $content; set f [open /a]; configure $f -in "+mode, 50); o.Code != api.COk {
			t.Fatal(o)
		}
		p, _ := pipe.New(mode, "lf", "full", 10)
		p.Feed(content)
		p.Close()
		for range 20 {
			script, want := "gets $f", ""
			if r.Intn(2) == 0 {
				want, _, _ = p.Line()
			} else {
				n := []int{0, 1, 2, 5, 4096, 5000, 60000}[r.Intn(7)]
				script = "read $f " + strconv.Itoa(n)
				want, _ = p.Read(n)
			}
			if o := x.Eval(script, 50); o.Text != want || o.Code != api.COk {
				t.Fatalf("%s of %.50q by %s: %d bytes, not %d", script, content, mode, len(o.Text), len(want))
			}
			eof := "0"
			if p.Eof() {
				eof = "1"
			}
			if o := x.Eval("list [eof $f] [blocked $f] [tell $f]", 50); o.Text != eof+" 0 "+strconv.Itoa(len(content)-p.Waiting()) {
				t.Fatalf("%s of %.50q by %s: %q, not eof %s at %d", script, content, mode, o.Text, eof, len(content)-p.Waiting())
			}
		}
	}
}

// What is written goes out as through a pipe, whatever the buffers.
func TestWritingAsPipes(t *testing.T) {
	r := rand.New(rand.NewSource(2))
	for range 300 {
		x := New()
		mode, flow, size := []string{"lf", "cr", "crlf"}[r.Intn(3)], []string{"none", "line", "full"}[r.Intn(3)], 1+r.Intn(9)
		p, _ := pipe.New("auto", mode, flow, size)
		set := fmt.Sprintf("-out %s -buffering %s -buffersize %d", mode, flow, size)
		x.Eval("set f [open /a w]; configure $f "+set+"; lassign [pair] a b; configure $a "+set+"; configure $b -in lf; configure stdout "+set+"; configure stderr "+set, 50)
		there, left := "", ""
		for range 10 {
			s := strings.Repeat("x", r.Intn(5)) + []string{"", "\n", "\ny"}[r.Intn(3)]
			option, end := "", "\n"
			if r.Intn(2) == 0 {
				option, end = "-nonewline ", ""
			}
			x.Set("s", s)
			if o := x.Eval("foreach c [list $f $a stdout stderr] {puts "+option+"$c $s}", 100); o.Code != api.COk {
				t.Fatal(o)
			}
			p.Write(s + end)
			if r.Intn(4) == 0 {
				x.Eval("foreach c [list $f $a stdout stderr] {flush $c}", 100)
				p.Flush()
			}
			now := p.Out()
			there, left = there+now, left+now
			if o := x.Eval("file get /a", 50); o.Text != there {
				t.Fatalf("the file by %s: %q, not %q", set, o.Text, there)
			}
			if r.Intn(2) == 0 {
				if o := x.Eval("read $b", 50); o.Text != left || Out(x, "stdout") != left || Out(x, "stderr") != left {
					t.Fatalf("the pair by %s: %q, not %q", set, o.Text, left)
				}
				left = ""
			}
		}
	}
}

func TestFeedToTheLimit(t *testing.T) {
	x := New()
	half := strings.Repeat("x", 1000000)
	if e := Feed(x, "stdin", half); e != api.OK {
		t.Errorf("Feed: %d", e)
	}
	if e := Feed(x, "stdin", half+"x"); e != api.ErrLimit {
		t.Errorf("Feed beyond: %d", e)
	}
	if e := Feed(x, "stdin", half); e != api.OK {
		t.Errorf("Feed to the limit: %d", e)
	}
	if e := Feed(x, "stdin", "x"); e != api.ErrLimit {
		t.Errorf("Feed beyond the limit: %d", e)
	}
	if o := x.Eval("string length [read stdin]", 50); o.Text != "65536" {
		t.Errorf("read: %v", o)
	}
	if e := Feed(x, "stdin", "x"); e != api.OK {
		t.Errorf("Feed behind a reading: %d", e)
	}
	if o := x.Eval("gets stdin", 50); o != (api.Outcome{}) {
		t.Errorf("a line that is not there yet: %v", o)
	}
	Feed(x, "stdin", "\n")
	if o := x.Eval("gets stdin", 50); o != (api.Outcome{Code: api.CError, Text: "long"}) {
		t.Errorf("a line that is too long: %v", o)
	}
	if o := x.Eval("gets stdin; blocked stdin", 50); o.Text != "1" {
		t.Errorf("it is gone: %v", o)
	}
	line := strings.Repeat("y", 65536)
	Feed(x, "stdin", line+"\n"+line+"y\n")
	if o := x.Eval("string length [gets stdin]", 50); o.Text != "65536" {
		t.Errorf("the longest line: %v", o)
	}
	if o := x.Eval("gets stdin", 50); o.Text != "long" {
		t.Errorf("one byte more: %.20q", o.Text)
	}
}

func TestFromOutside(t *testing.T) {
	x := New()
	x.Eval("pair; set f [open /a w]; puts $f x; flush $f", 50)
	for name, want := range map[string]api.Errno{"stdin": api.OK, "pipe1": api.OK, "pipe2": api.OK, "file3": api.ErrKind, "stdout": api.ErrKind, "stderr": api.ErrKind, "nope": api.ErrName, "": api.ErrName} {
		if e := Feed(x, name, "a\n"); e != want {
			t.Errorf("Feed of %q: %d", name, e)
		}
		if e := End(x, name); e != want {
			t.Errorf("End of %q: %d", name, e)
		}
		if want != api.OK {
			continue
		}
		if e := Feed(x, name, ""); e != api.ErrState {
			t.Errorf("Feed of %q behind its end: %d", name, e)
		}
		if e := End(x, name); e != api.ErrState {
			t.Errorf("End of %q twice: %d", name, e)
		}
		if o := x.Eval("list [gets "+name+"] [gets "+name+" v] [eof "+name+"]", 50); o.Text != "a -1 1" {
			t.Errorf("%q: %v", name, o)
		}
	}
	if got := Tell(x); len(got) != 2 || got[0] != "/a" || got[1] != "x\n" {
		t.Errorf("Tell = %q", got)
	}
	if Out(x, "stdin") != "" || Out(x, "pipe1") != "" || Out(x, "nope") != "" || Out(nil, "stdout") != "" || len(Tell(nil)) != 0 || Feed(nil, "stdin", "") != api.ErrName || End(nil, "stdin") != api.ErrName {
		t.Error("what there is not")
	}
	y := New()
	y.Eval("lay stdin hex", 50)
	if e := Feed(y, "stdin", "4142x"); e != api.ErrKind {
		t.Errorf("Feed that breaks: %d", e)
	}
	if e := Feed(y, "stdin", "41"); e != api.ErrKind {
		t.Errorf("Feed of what is broken: %d", e)
	}
	if o := y.Eval("read stdin", 50); o.Text != "AB" {
		t.Errorf("what came in before: %v", o)
	}
	y.Eval("puts a; puts -nonewline b; puts stderr c; puts -nonewline stderr d", 50)
	if Out(y, "stdout") != "a\n" || Out(y, "stderr") != "c\nd" || Out(y, "stdout") != "" {
		t.Error("Out")
	}
	y.Eval("flush stdout", 50)
	if Out(y, "stdout") != "b" {
		t.Error("Out behind a flush")
	}
}

// TestFeedOrder: that a channel is broken is told ahead of that it is closed, and this ahead of the limit.
func TestFeedOrder(t *testing.T) {
	long := strings.Repeat("41", 1000001)
	for _, name := range []string{"stdin", "pipe1", "pipe2"} {
		for _, k := range []struct {
			first string // what is fed ahead of the end
			end   bool
			want  api.Errno
			limit api.Errno // of a raw text that is too long
		}{
			{"41", false, api.OK, api.ErrLimit}, {"41x", false, api.ErrKind, api.ErrKind}, {"41", true, api.ErrState, api.ErrState}, {"41x", true, api.ErrKind, api.ErrKind},
		} {
			x := New()
			told(x, "pair; lay "+name+" hex")
			if e := Feed(x, name, k.first); (e == api.ErrKind) != strings.Contains(k.first, "x") {
				t.Errorf("Feed of %q: %d", k.first, e)
			}
			if k.end {
				if e := End(x, name); e != api.OK {
					t.Errorf("End of %s behind %q: %d", name, k.first, e)
				}
			}
			for _, raw := range []string{"", "4"} {
				if e := Feed(x, name, raw); e != k.want {
					t.Errorf("Feed of %q behind %q, end %t: %d, not %d", raw, k.first, k.end, e, k.want)
				}
			}
			if e := Feed(x, name, long); e != k.limit {
				t.Errorf("Feed of too much behind %q, end %t: %d, not %d", k.first, k.end, e, k.limit)
			}
			if e := End(x, name); k.end && e != api.ErrState || !k.end && e != api.OK {
				t.Errorf("End of %s: %d", name, e)
			}
			if got := told(x, "list [read "+name+"] [eof "+name+"]"); got != "0 A 1" {
				t.Errorf("%s behind %q: %s", name, k.first, got)
			}
		}
	}
	x := New()
	told(x, "lassign [pair] a b; lay $b hex; puts -nonewline $a 41x; catch {close $a}")
	if e := Feed(x, "pipe2", "41"); e != api.ErrKind {
		t.Errorf("Feed of what broke by its other side, which is gone: %d", e)
	}
	told(x, "lassign [pair] a b; close $a")
	if e := Feed(x, "pipe4", "41"); e != api.ErrState {
		t.Errorf("Feed of what is closed by its other side: %d", e)
	}
}
