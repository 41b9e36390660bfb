package value

import (
	"math/rand"
	"slices"
	"testing"

	"threadbare/api"
	"threadbare/big"
	"threadbare/dict"
	"threadbare/list"
)

// The store is held against texts alone, with the face that was asked for last.

type plain struct {
	text string
	face int
}

func some(r *rand.Rand) string {
	return []string{"", "a", "1 2", " 0x1F ", "007", "a {b c}", "a 1 b 2 a 3", "{", "x  y", "k v", "true", "no", "-0", "1 2 3"}[r.Intn(14)]
}

// asked is what Ask does: the face that a text has then, and the error.
func asked(text string, face int) api.Errno {
	e := api.OK
	switch face {
	case 0:
	case 1:
		_, _, e = list.Split(text)
	case 2:
		_, e = big.Canonical(text)
	case 3:
		_, e = dict.Pairs(text)
	default:
		e = api.ErrRange
	}
	return e
}

func TestStoreAsTexts(t *testing.T) {
	r := rand.New(rand.NewSource(1))
	for range 100 {
		s := NewStore()
		var all []plain
		for range 40 {
			h, i, text := r.Intn(len(all)+2)-1, r.Intn(4)-1, some(r)
			there := h >= 0 && h < len(all)
			want := api.OK
			if !there {
				want = api.ErrName
			}
			got := api.OK
			what := r.Intn(9)
			switch what {
			case 0:
				if n := s.Add(text); n != len(all) {
					t.Fatalf("Add = %d", n)
				}
				all, want = append(all, plain{text, 0}), api.OK
			case 1:
				l := []string{text, some(r)}[:r.Intn(3)]
				n, e := s.Make(l)
				joined, _ := list.Join(l)
				if n != len(all) || e != api.OK {
					t.Fatalf("Make = %d, %d", n, e)
				}
				all, want = append(all, plain{joined, 1}), api.OK
			case 2:
				n, e := s.Copy(h)
				if got = e; there {
					all = append(all, all[h])
					if n != len(all)-1 {
						t.Fatalf("Copy = %d", n)
					}
				}
			case 3:
				face := r.Intn(6) - 1
				got = s.Ask(h, face)
				if there {
					if want = asked(all[h].text, face); want == api.OK {
						all[h].face = face
					}
				}
			case 4:
				el, e := s.Element(h, i)
				if got = e; there {
					l, _, wrong := list.Split(all[h].text)
					if want = wrong; wrong == api.OK {
						all[h].face = 1
						if i < 0 || i >= len(l) {
							want = api.ErrRange
						} else if el != l[i] {
							t.Fatalf("Element %d of %q = %q", i, all[h].text, el)
						}
					}
				}
			case 5:
				if got = s.Append(h, text); there {
					all[h] = plain{all[h].text + text, 0}
				}
			case 6:
				if got = s.Put(h, i, text); there {
					l, _, wrong := list.Split(all[h].text)
					if want = wrong; wrong == api.OK {
						all[h].face = 1
						if i < 0 || i >= len(l) {
							want = api.ErrRange
						} else {
							l[i] = text
							all[h].text, _ = list.Join(l)
						}
					}
				}
			case 7:
				if got = s.Enter(h, "b", text); there {
					made, wrong := dict.Set(all[h].text, []string{"b"}, text)
					if want = wrong; wrong == api.OK {
						all[h] = plain{made, 3}
					}
				}
			case 8:
				s.Forget()
				for k := range all {
					all[k].face = 0
				}
				want = api.OK
			}
			if got != want {
				t.Fatalf("call %d of %d: %d, not %d", what, h, got, want)
			}
			for k, p := range all {
				text, e := s.Text(k)
				face, e2 := s.Face(k)
				if text != p.text || face != p.face || e != api.OK || e2 != api.OK {
					t.Fatalf("behind call %d of %d, the value %d: %q, %d, not %q, %d", what, h, k, text, face, p.text, p.face)
				}
			}
		}
	}
}

func TestFacesChangeNothing(t *testing.T) {
	r := rand.New(rand.NewSource(2))
	for range 500 {
		text := some(r)
		v := New(text)
		for range 6 {
			face := v.Face()
			switch r.Intn(4) {
			case 0:
				l, e := v.List()
				want, _, wrong := list.Split(text)
				if !slices.Equal(l, want) || e != wrong {
					t.Fatalf("List of %q: %q, %d", text, l, e)
				}
				if e == api.OK {
					face = api.FList
				}
			case 1:
				n, e := v.Number()
				want, wrong := big.Canonical(text)
				if n != want || e != wrong {
					t.Fatalf("Number of %q: %q, %d", text, n, e)
				}
				if e == api.OK {
					face = api.FNumber
				}
			case 2:
				l, e := v.Pairs()
				want, wrong := dict.Pairs(text)
				if !slices.Equal(l, want) || e != wrong {
					t.Fatalf("Pairs of %q: %q, %d", text, l, e)
				}
				if e == api.OK {
					face = api.FDict
				}
			case 3:
				_, e := v.Truth()
				if _, wrong := big.Canonical(text); wrong == api.OK {
					face = api.FNumber
				} else if word := text == "true" || text == "no"; word != (e == api.OK) {
					t.Fatalf("Truth of %q: %d", text, e)
				}
			}
			if v.Face() != face || v.Text() != text {
				t.Fatalf("%q with the face %d, not %q with %d", v.Text(), v.Face(), text, face)
			}
		}
	}
}
