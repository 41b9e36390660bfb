package pipe

import (
	"encoding/hex"
	"math/rand"
	"strconv"
	"strings"
	"testing"

	"threadbare/api"
)

// The pipe is held against texts that are translated as a whole.

// inside is what raw bytes become; rest is a 13 that waits.
func inside(raw, mode string, closed bool) (s, rest string) {
	if (mode == "crlf" || mode == "auto") && !closed && strings.HasSuffix(raw, "\r") {
		raw, rest = raw[:len(raw)-1], "\r"
	}
	switch mode {
	case "crlf":
		// a 13 before a 13 and a 10 stays
		raw = strings.ReplaceAll(raw, "\r\n", "\n")
	case "auto":
		raw = strings.ReplaceAll(strings.ReplaceAll(raw, "\r\n", "\n"), "\r", "\n")
	case "cr":
		raw = strings.ReplaceAll(raw, "\r", "\n")
	}
	return raw, rest
}

func some(r *rand.Rand, letters string, most int) string {
	b := make([]byte, r.Intn(most+1))
	for i := range b {
		b[i] = letters[r.Intn(len(letters))]
	}
	return string(b)
}

func TestReadingAsAWhole(t *testing.T) {
	r := rand.New(rand.NewSource(1))
	modes := []string{"lf", "cr", "crlf", "auto"}
	for range 5000 {
		mode := modes[r.Intn(4)]
		p, e := New(mode, "lf", "full", 10)
		if e != api.OK {
			t.Fatal(e)
		}
		fed, told, closed := "", "", false
		eof, blocked := false, false
		for range 15 {
			switch k := r.Intn(8); {
			case k < 3:
				piece := some(r, "ab\r\n\r\n", 5)
				if e := p.Feed(piece); closed != (e == api.ErrState) || !closed && e != api.OK {
					t.Fatalf("Feed: %d", e)
				}
				if !closed {
					fed += piece
					eof, blocked = false, false
				}
			case k == 3 && r.Intn(3) == 0:
				if e := p.Close(); closed != (e == api.ErrState) {
					t.Fatalf("Close: %d", e)
				}
				if !closed {
					eof, blocked = false, false
				}
				closed = true
			case k < 6:
				all, rest := inside(fed, mode, closed)
				n := r.Intn(8) - 1
				there := all[len(told):]
				want := there
				if n >= 0 {
					want = there[:min(n, len(there))]
				}
				if got, e := p.Read(n); got != want || e != api.OK {
					t.Fatalf("Read(%d) of %q by %s behind %q: %q, not %q", n, fed, mode, told, got, want)
				}
				told += want
				fewer := n < 0 || len(want) < n
				eof = closed && fewer && len(there) == len(want) && rest == ""
				blocked = n >= 0 && fewer && !closed
			default:
				all, _ := inside(fed, mode, closed)
				line, behind, found := strings.Cut(all[len(told):], "\n")
				got, ok, _ := p.Line()
				switch {
				case found:
					told = all[:len(all)-len(behind)]
					eof, blocked = false, false
				case closed:
					told = all
					eof, blocked = true, false
				default:
					line, eof, blocked = "", false, true
				}
				if got != line || ok != (found || closed && line != "") {
					t.Fatalf("Line of %q by %s: %q, %t, not %q", fed, mode, got, ok, line)
				}
			}
			all, _ := inside(fed, mode, closed)
			if p.Eof() != eof || p.Blocked() != blocked || p.Ready() != (closed || strings.Contains(all[len(told):], "\n")) {
				t.Fatalf("%q by %s, %q told: eof %t, blocked %t, ready %t", fed, mode, told, p.Eof(), p.Blocked(), p.Ready())
			}
			if back := p.Waiting(); mode == "lf" && back != len(fed)-len(told) {
				t.Fatalf("Waiting = %d", back)
			}
		}
		raw, closing := some(r, "a\r\n", 6), r.Intn(2) == 0
		want, rest := inside(raw, mode, closing)
		if s, left, e := In(raw, mode, closing); s != want || left != rest || e != api.OK {
			t.Fatalf("In(%q, %s, %t) = %q, %q", raw, mode, closing, s, left)
		}
	}
}

func TestWritingAsAWhole(t *testing.T) {
	r := rand.New(rand.NewSource(2))
	ends := map[string]string{"lf": "\n", "cr": "\r", "crlf": "\r\n"}
	flows := []string{"none", "line", "full"}
	for range 5000 {
		mode := []string{"lf", "cr", "crlf"}[r.Intn(3)]
		flow, size := flows[r.Intn(3)], 1+r.Intn(6)
		p, _ := New("lf", mode, flow, size)
		buffer, out, lineEnd := "", "", 0
		for range 12 {
			switch k := r.Intn(8); {
			case k == 0:
				p.Flush()
				out, buffer, lineEnd = out+buffer, "", 0
			case k == 1:
				if got := p.Out(); got != out {
					t.Fatalf("Out = %q, not %q", got, out)
				}
				out = ""
			case k == 2:
				flow = flows[r.Intn(3)]
				if p.Set("buffering", flow) != api.OK {
					t.Fatal("Set")
				}
			case k == 3:
				size = 1 + r.Intn(6)
				if p.Set("size", strconv.Itoa(size)) != api.OK {
					t.Fatal("Set")
				}
			default:
				s := some(r, "ab\n", 4)
				piece := strings.ReplaceAll(s, "\n", ends[mode])
				if got, e := Outward(s, mode); got != piece || e != api.OK {
					t.Fatalf("Outward(%q, %s) = %q", s, mode, got)
				}
				if at := strings.LastIndex(piece, ends[mode]); at >= 0 {
					lineEnd = len(buffer) + at + len(ends[mode])
				}
				buffer += piece
				goes := 0
				if flow == "line" {
					goes = lineEnd
				}
				if flow == "none" || len(buffer)-goes >= size {
					goes = len(buffer)
				}
				out, buffer, lineEnd = out+buffer[:goes], buffer[goes:], max(lineEnd-goes, 0)
				if e := p.Write(s); e != api.OK {
					t.Fatalf("Write: %d", e)
				}
			}
			if p.Pending() != len(buffer) {
				t.Fatalf("by %s, %s, %d: %d pending, not %q", mode, flow, size, p.Pending(), buffer)
			}
		}
		if got := p.Out(); got != out {
			t.Fatalf("by %s: %q left, not %q", mode, got, out)
		}
	}
}

func rot(s string) string {
	out := ""
	for i := range len(s) {
		c := s[i : i+1]
		switch {
		case strings.Contains("abcdefghijklmABCDEFGHIJKLM", c):
			c = string([]byte{c[0] + 13})
		case strings.Contains("nopqrstuvwxyzNOPQRSTUVWXYZ", c):
			c = string([]byte{c[0] - 13})
		}
		out += c
	}
	return out
}

func TestFiltersAsAWhole(t *testing.T) {
	r := rand.New(rand.NewSource(3))
	for range 1000 {
		from, _ := New("lf", "lf", "none", 1)
		to, _ := New("lf", "lf", "none", 1)
		var laid []string
		for range r.Intn(6) {
			f := []string{"rot", "hex"}[r.Intn(2)]
			if from.Lay(f) != api.OK || to.Lay(f) != api.OK {
				t.Fatal("Lay")
			}
			laid = append(laid, f)
		}
		if e := from.Lay("rot"); (len(laid) == 5) != (e == api.ErrLimit) {
			t.Fatalf("Lay of %d: %d", len(laid)+1, e)
		} else if e == api.OK {
			from.Lift()
		}
		s := some(r, "azAZmnMN[`@{\x00\xff", 6)
		want := s
		for i := len(laid) - 1; i >= 0; i-- {
			if laid[i] == "rot" {
				want = rot(want)
			} else {
				want = hex.EncodeToString([]byte(want))
			}
		}
		from.Write(s)
		raw := from.Out()
		if raw != want {
			t.Fatalf("%q through %q: %q, not %q", s, laid, raw, want)
		}
		for i := range len(raw) {
			if e := to.Feed(raw[i : i+1]); e != api.OK {
				t.Fatalf("Feed: %d", e)
			}
		}
		if got, _ := to.Read(-1); got != s {
			t.Fatalf("%q through %q and back: %q", s, laid, got)
		}
		if len(laid) > 0 && laid[0] == "hex" && (to.Feed("4") != api.OK || to.Feed("g") != api.ErrKind || to.Feed("4") != api.ErrKind) {
			t.Fatal("a byte that is no digit")
		}
	}
	for raw, want := range map[string]string{"4A": "J", "4a6B": "Jk", "f": "", "fFaA09": "\xff\xaa\t"} {
		q, _ := New("lf", "lf", "full", 5)
		q.Lay("hex")
		q.Feed(raw)
		if got, _ := q.Read(-1); got != want {
			t.Errorf("%q through hex: %q", raw, got)
		}
	}
	for _, raw := range []string{"/", ":", "@", "G", "`", "g", " "} {
		q, _ := New("lf", "lf", "full", 5)
		q.Lay("hex")
		if e := q.Feed("41" + raw + "42"); e != api.ErrKind || q.Waiting() != 1 {
			t.Errorf("%q through hex: %d, %d", raw, e, q.Waiting())
		}
	}
}
