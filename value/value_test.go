package value

import (
	"slices"
	"strconv"
	"strings"
	"testing"

	"threadbare/api"
)

func TestFaces(t *testing.T) {
	v := New("1 2")
	if l, e := v.List(); e != api.OK || !slices.Equal(l, []string{"1", "2"}) || v.Face() != api.FList || v.Text() != "1 2" {
		t.Errorf("List: %q, %d, face %d", l, e, v.Face())
	}
	if _, e := v.Number(); e != api.ErrSyntax || v.Face() != api.FList {
		t.Errorf("Number: %d, face %d", e, v.Face())
	}
	if p, e := v.Pairs(); e != api.OK || len(p) != 2 || v.Face() != api.FDict {
		t.Errorf("Pairs: %q, %d", p, e)
	}
	l, _ := v.List()
	l[0] = "x"
	if again, _ := v.List(); again[0] != "1" || v.Text() != "1 2" {
		t.Error("List gives its own memory away")
	}
	n := New(" 0x10 ")
	if s, e := n.Number(); s != "16" || e != api.OK || n.Face() != api.FNumber || n.Text() != " 0x10 " {
		t.Errorf("Number = %q, %d", s, e)
	}
	if l, e := n.List(); e != api.OK || !slices.Equal(l, []string{"0x10"}) || n.Face() != api.FList {
		t.Errorf("List of a number = %q", l)
	}
	w := New(" a  b ")
	w.List()
	if w.Text() != " a  b " {
		t.Error("a list's face changes the text")
	}
	if _, e := New("a {").List(); e != api.ErrSyntax {
		t.Error("List of no list")
	}
	if _, e := New("a").Pairs(); e != api.ErrKind {
		t.Error("Pairs of no dictionary")
	}
	if p, _ := New("a 1 a 2").Pairs(); !slices.Equal(p, []string{"a", "2"}) {
		t.Errorf("Pairs = %q", p)
	}
}

func TestMade(t *testing.T) {
	v, e := OfList([]string{"a b", ""})
	if e != api.OK || v.Text() != "{a b} {}" || v.Face() != api.FList {
		t.Errorf("OfList: %q, %d", v.Text(), e)
	}
	if v, e := OfList(make([]string, 10001)); v != nil || e != api.ErrLimit {
		t.Error("OfList of too many")
	}
	n, e := OfNumber(" +0x1F ")
	if e != api.OK || n.Text() != "31" || n.Face() != api.FNumber {
		t.Errorf("OfNumber: %q, %d", n.Text(), e)
	}
	if v, e := OfNumber("x"); v != nil || e != api.ErrSyntax {
		t.Error("OfNumber of none")
	}
	var none *Value
	if none.Text() != "" || none.Face() != 0 {
		t.Error("a nil value")
	}
	if l, e := none.List(); len(l) != 0 || e != api.OK {
		t.Error("List of a nil value")
	}
	if l, e := none.Pairs(); len(l) != 0 || e != api.OK {
		t.Error("Pairs of a nil value")
	}
	if _, e := none.Number(); e != api.ErrSyntax {
		t.Error("Number of a nil value")
	}
	if _, e := none.Truth(); e != api.ErrSyntax {
		t.Error("Truth of a nil value")
	}
	if new(Value).Text() != "" {
		t.Error("an empty value")
	}
}

func TestTruth(t *testing.T) {
	for s, want := range map[string]bool{"1": true, "0": false, "true": true, "yes": true, "on": true, "false": false, "no": false, "off": false, " 0x0 ": false, "-1": true, " 7\n": true} {
		v := New(s)
		got, e := v.Truth()
		number := s != "" && !strings.Contains(" true yes on false no off ", " "+s+" ")
		if got != want || e != api.OK || number != (v.Face() == api.FNumber) {
			t.Errorf("Truth(%q) = %t, %d, face %d", s, got, e, v.Face())
		}
	}
	for _, s := range []string{"", "True", " true", "2x", strings.Repeat("9", 601), "a b"} {
		v := New(s)
		if got, e := v.Truth(); got || e != api.ErrSyntax || v.Face() != 0 {
			t.Errorf("Truth(%.9q) = %t, %d", s, got, e)
		}
	}
}

func TestStore(t *testing.T) {
	s := NewStore()
	a := s.Add("x  y")
	b, _ := s.Make([]string{"p", "q r"})
	c, e := s.Copy(b)
	if a != 0 || b != 1 || c != 2 || e != api.OK {
		t.Errorf("handles %d, %d, %d", a, b, c)
	}
	text := func(h int, want string, face int) {
		t.Helper()
		got, _ := s.Text(h)
		f, _ := s.Face(h)
		if got != want || f != face {
			t.Errorf("%q with the face %d, not %q with %d", got, f, want, face)
		}
	}
	text(c, "p {q r}", api.FList)
	if e := s.Put(c, 0, "a b"); e != api.OK {
		t.Error(e)
	}
	text(c, "{a b} {q r}", api.FList)
	text(b, "p {q r}", api.FList)
	if e := s.Enter(a, "z", "1"); e != api.OK {
		t.Error(e)
	}
	text(a, "x y z 1", api.FDict)
	s.Enter(a, "x", "2 3")
	text(a, "x {2 3} z 1", api.FDict)
	d, _ := s.Copy(a)
	s.Append(d, "!")
	text(d, "x {2 3} z 1!", 0)
	text(a, "x {2 3} z 1", api.FDict)
	if el, e := s.Element(a, 3); el != "1" || e != api.OK {
		t.Errorf("Element = %q, %d", el, e)
	}
	text(a, "x {2 3} z 1", api.FList)
	if e := s.Ask(a, 0); e != api.OK {
		t.Error(e)
	}
	text(a, "x {2 3} z 1", 0)
	f, _ := s.Copy(a)
	s.Ask(f, 3)
	text(a, "x {2 3} z 1", 0)
	text(f, "x {2 3} z 1", 3)
	if s.Ask(f, 2) != api.ErrSyntax || s.Ask(f, 1) != api.OK || s.Ask(f, 1) != api.OK {
		t.Error("Ask")
	}
	s.Forget()
	text(f, "x {2 3} z 1", 0)
}

func TestStoreErrors(t *testing.T) {
	s := NewStore()
	h := s.Add("a b c")
	bad := s.Add("a {")
	long := s.Add(strings.Repeat("x", 65536))
	none := (*Store)(nil)
	for i, c := range []struct{ got, want api.Errno }{
		{s.Append(9, ""), api.ErrName}, {s.Append(-1, ""), api.ErrName}, {s.Put(9, 0, ""), api.ErrName}, {s.Enter(9, "", ""), api.ErrName}, {s.Ask(9, 7), api.ErrName}, {s.Ask(h, 4), api.ErrRange}, {s.Ask(h, -1), api.ErrRange}, {s.Ask(bad, 1), api.ErrSyntax}, {s.Ask(h, 3), api.ErrKind},
		{none.Append(0, ""), api.ErrName}, {none.Put(0, 0, ""), api.ErrName}, {none.Ask(0, 0), api.ErrName},
		{s.Put(h, 3, ""), api.ErrRange}, {s.Put(h, -1, ""), api.ErrRange}, {s.Put(bad, 0, ""), api.ErrSyntax}, {s.Enter(h, "a", ""), api.ErrKind}, {s.Put(h, 0, strings.Repeat("x", 65533)), api.ErrLong}, {s.Put(h, 0, strings.Repeat("x", 65532)), api.OK}, {s.Append(h, "x"), api.ErrLong}, {s.Append(long, ""), api.OK}, {s.Append(long, "x"), api.ErrLong},
	} {
		if c.got != c.want {
			t.Errorf("case %d: %d, not %d", i, c.got, c.want)
		}
	}
	if f, _ := s.Face(bad); f != 0 {
		t.Error("an error makes a face")
	}
	if _, e := s.Make(make([]string, 10001)); e != api.ErrLimit {
		t.Error("Make of too many")
	}
	if h, e := none.Make(nil); h != 0 || e != api.ErrName || none.Add("x") != 0 {
		t.Error("a nil store makes")
	}
	if _, e := none.Copy(0); e != api.ErrName {
		t.Error("a nil store copies")
	}
	none.Forget()
	full := s.Add("")
	for i := range 5000 {
		if e := s.Enter(full, strconv.Itoa(i), ""); e != api.OK {
			t.Fatalf("Enter %d: %d", i, e)
		}
	}
	before, _ := s.Text(full)
	if e := s.Enter(full, "x", ""); e != api.ErrLimit {
		t.Errorf("Enter of one too many: %d", e)
	}
	if e := s.Enter(full, "x", strings.Repeat("x", 65536)); e != api.ErrLong {
		t.Errorf("Enter of one too many and too long: %d", e)
	}
	if after, _ := s.Text(full); after != before {
		t.Error("a refused Enter changes the value")
	}
	r := s.Add("a b")
	s.Element(r, 9)
	if f, _ := s.Face(r); f != api.FList {
		t.Error("Element with ErrRange keeps the list's face")
	}
}
