package list

import (
	"math/rand"
	"regexp"
	"slices"
	"sort"
	"strconv"
	"strings"
	"testing"

	"threadbare/api"
	"threadbare/text"
)

// The functions are held against the plainest ways to do the same.

const white = "\t\n\v\f\r "

func some(r *rand.Rand, letters string, most int) string {
	b := make([]byte, r.Intn(most+1))
	for i := range b {
		b[i] = letters[r.Intn(len(letters))]
	}
	return string(b)
}

var quotedForm = regexp.MustCompile(`(?s)^"((?:\\.|[^\\"])*)"`)

// parts reads a list as the chapter tells it; at is where a wrong element begins, or -1.
func parts(s string) (l []string, at int) {
	for i := 0; ; {
		for i < len(s) && strings.IndexByte(white, s[i]) >= 0 {
			i++
		}
		if i == len(s) {
			return l, -1
		}
		el, n := "", 0
		switch s[i] {
		case '{':
			level := 0
			for k := i; k < len(s) && n == 0; k++ {
				switch s[k] {
				case '\\':
					k++
				case '{':
					level++
				case '}':
					if level--; level == 0 {
						el, n = s[i+1:k], k+1-i
					}
				}
			}
		case '"':
			if m := quotedForm.FindStringSubmatch(s[i:]); m != nil {
				el, n = text.Unescaped(m[1]), len(m[0])
			}
		default:
			for i+n < len(s) && strings.IndexByte(white, s[i+n]) < 0 {
				k := 1
				if s[i+n] == '\\' {
					_, k = text.Unescape(s[i+n:])
				}
				n += k
			}
			el = text.Unescaped(s[i : i+n])
		}
		if n == 0 || i+n < len(s) && strings.IndexByte(white, s[i+n]) < 0 {
			return nil, i
		}
		l, i = append(l, el), i+n
	}
}

// plainQuote quotes a text as the chapter tells it.
func plainQuote(s string) string {
	if s == "" {
		return "{}"
	}
	if !strings.ContainsAny(s, white+"\"\\{}$[];") && s[0] != '#' {
		return s
	}
	level, ok, escaped := 0, !strings.Contains(s, "\\\n"), false
	for _, c := range []byte(s) {
		switch {
		case escaped:
			escaped = false
		case c == '\\':
			escaped = true
		case c == '{':
			level++
		case c == '}':
			level--
			ok = ok && level >= 0
		}
	}
	if ok && level == 0 && !escaped {
		return "{" + s + "}"
	}
	out := strings.NewReplacer("\t", "\\t", "\n", "\\n", "\v", "\\v", "\f", "\\f", "\r", "\\r", " ", "\\ ", "\"", "\\\"", "\\", "\\\\", "{", "\\{", "}", "\\}", "$", "\\$", "[", "\\[", "]", "\\]", ";", "\\;").Replace(s)
	if s[0] == '#' {
		out = "\\" + out
	}
	return out
}

const hardLetters = "ab{}\\\"\\{} \n\t#$[];{}"

func TestFormsAsPlainOnes(t *testing.T) {
	r := rand.New(rand.NewSource(1))
	right := 0
	for range 20000 {
		s := some(r, hardLetters, 9)
		if got, want := Quote(s), plainQuote(s); got != want {
			t.Fatalf("Quote(%q) = %q, not %q", s, got, want)
		}
		want, place := parts(s)
		l, at, e := Split(s)
		if place >= 0 {
			if e != api.ErrSyntax || at != place || len(l) != 0 || Valid(s) {
				t.Fatalf("Split(%q) = %q, %d, %d, not wrong at %d", s, l, at, e, place)
			}
			continue
		}
		right++
		n, _ := Length(s)
		if e != api.OK || at != 0 || !slices.Equal(l, want) || !Valid(s) || n != len(want) {
			t.Fatalf("Split(%q) = %q, %d, %d, not %q", s, l, at, e, want)
		}
		for i, el := range want {
			want[i] = plainQuote(el)
		}
		canonical := strings.Join(want, " ")
		if c, e := Canonical(s); c != canonical || e != api.OK || IsCanonical(s) != (s == canonical) {
			t.Fatalf("Canonical(%q) = %q, not %q", s, c, canonical)
		}
	}
	if right < 3000 {
		t.Errorf("only %d lists", right)
	}
	for c := range 256 {
		s := string([]byte{byte(c)})
		if Quote(s) != plainQuote(s) || Quote("a"+s) != plainQuote("a"+s) {
			t.Errorf("Quote of %q: %q, %q", s, Quote(s), Quote("a"+s))
		}
	}
}

// place is what a word of these is for a length.
func place(word string, n int) int {
	if rest, ok := strings.CutPrefix(word, "end"); ok {
		k, _ := strconv.Atoi(rest)
		return n - 1 + k
	}
	k, _ := strconv.Atoi(word)
	return k
}

func somePlace(r *rand.Rand) string {
	return []string{"-2", "-1", "0", "1", "2", "3", "4", "5", "end", "end-1", "end-4", "end+1", "end+2"}[r.Intn(13)]
}

func joined(t *testing.T, l []string) string {
	t.Helper()
	s, e := Join(l)
	if e != api.OK {
		t.Fatal(e)
	}
	return s
}

func TestPlacesAsPlainOnes(t *testing.T) {
	r := rand.New(rand.NewSource(2))
	for range 20000 {
		var l []string
		for range r.Intn(5) {
			l = append(l, some(r, "ab {", 2))
		}
		s, from, to := joined(t, l), somePlace(r), somePlace(r)
		i, j := place(from, len(l)), place(to, len(l))
		want := ""
		if i >= 0 && i < len(l) {
			want = l[i]
		}
		if got, e := Index(s, []string{from}); got != want || e != api.OK {
			t.Fatalf("Index(%q, %s) = %q, %d, not %q", s, from, got, e, want)
		}
		set, e := Set(s, []string{from}, "new")
		switch {
		case i < 0 || i > len(l):
			if set != "" || e != api.ErrRange {
				t.Fatalf("Set(%q, %s) = %q, %d", s, from, set, e)
			}
		case e != api.OK || set != joined(t, append(append(slices.Clone(l[:i]), "new"), l[min(i+1, len(l)):]...)):
			t.Fatalf("Set(%q, %s) = %q, %d", s, from, set, e)
		}
		var cut []string
		for k, el := range l {
			if k >= i && k <= j {
				cut = append(cut, el)
			}
		}
		if got, e := Range(s, from, to); got != joined(t, cut) || e != api.OK {
			t.Fatalf("Range(%q, %s, %s) = %q, %d, not %q", s, from, to, got, e, cut)
		}
		begin := min(max(i, 0), len(l))
		rest := max(min(j+1, len(l)), begin)
		with := []string{"x y", ""}[:r.Intn(3)]
		if got, e := Replace(s, from, to, with); got != joined(t, slices.Concat(l[:begin], with, l[rest:])) || e != api.OK {
			t.Fatalf("Replace(%q, %s, %s, %q) = %q, %d", s, from, to, with, got, e)
		}
		if strings.HasPrefix(from, "end") {
			begin = min(max(i+1, 0), len(l))
		}
		if got, e := Insert(s, from, with); got != joined(t, slices.Concat(l[:begin], with, l[begin:])) || e != api.OK {
			t.Fatalf("Insert(%q, %s, %q) = %q, %d", s, from, with, got, e)
		}
		back := slices.Clone(l)
		slices.Reverse(back)
		if got, e := Reverse(s); got != joined(t, back) || e != api.OK {
			t.Fatalf("Reverse(%q) = %q, %d", s, got, e)
		}
		n := r.Intn(5) - 1
		if got, e := Repeat(l, n); got != joined(t, slices.Repeat(l, max(n, 0))) || e != api.OK {
			t.Fatalf("Repeat(%q, %d) = %q, %d", l, n, got, e)
		}
	}
}

func TestSortAsAPlainOne(t *testing.T) {
	r := rand.New(rand.NewSource(3))
	for range 10000 {
		kind, down, unique := r.Intn(3), r.Intn(2) == 0, r.Intn(2) == 0
		var l []string
		for range r.Intn(9) {
			if kind == 1 {
				l = append(l, []string{"", "-", "0", "-0"}[r.Intn(4)]+strconv.Itoa(r.Intn(4)))
			} else {
				l = append(l, some(r, "abAB", 2))
			}
		}
		compare := func(a, b string) int {
			switch kind {
			case 1:
				n, _ := strconv.Atoi(a)
				m, _ := strconv.Atoi(b)
				return n - m
			case 2:
				a, b = strings.ToLower(a), strings.ToLower(b)
			}
			return strings.Compare(a, b)
		}
		want := slices.Clone(l)
		sort.SliceStable(want, func(i, j int) bool {
			if down {
				return compare(want[i], want[j]) > 0
			}
			return compare(want[i], want[j]) < 0
		})
		if unique {
			var once []string
			for i, el := range want {
				if i+1 == len(want) || compare(el, want[i+1]) != 0 {
					once = append(once, el)
				}
			}
			want = once
		}
		if got, e := Sort(joined(t, l), kind, down, unique); got != joined(t, want) || e != api.OK {
			t.Fatalf("Sort(%q, %d, %t, %t) = %q, %d, not %q", l, kind, down, unique, got, e, want)
		}
		pattern, from, found := some(r, "abAB*?", 2), r.Intn(6)-2, -1
		for i, el := range l {
			fits := []bool{el == pattern, text.Glob(pattern, el, false), text.Glob(pattern, el, true)}[kind]
			if i >= from && fits && found < 0 {
				found = i
			}
		}
		if got, e := Search(joined(t, l), pattern, kind, from); got != found || e != api.OK {
			t.Fatalf("Search(%q, %q, %d, %d) = %d, %d, not %d", l, pattern, kind, from, got, e, found)
		}
	}
	for s, e := range map[string]api.Errno{"123456789012345678": 0, "-123456789012345678": 0, "1234567890123456789": api.ErrKind, "-1234567890123456789": api.ErrKind, "000000000000000001": 0, "--1": api.ErrKind, "1-": api.ErrKind, "{}": api.ErrKind, "/": api.ErrKind, ":": api.ErrKind} {
		if _, got := Sort("1 "+s, 1, false, false); got != e {
			t.Errorf("Sort of %s: %d", s, got)
		}
	}
}

func TestConcatAsAPlainOne(t *testing.T) {
	r := rand.New(rand.NewSource(4))
	trimmed := func(s string) string {
		s = strings.TrimLeft(s, white)
		for s != "" && strings.Contains(white, s[len(s)-1:]) {
			body := s[:len(s)-1]
			if (len(body)-len(strings.TrimRight(body, "\\")))%2 == 1 {
				break
			}
			s = body
		}
		return s
	}
	for range 20000 {
		var l, want []string
		for range r.Intn(4) {
			l = append(l, some(r, "a \\\n\t", 6))
		}
		for _, s := range l {
			if s = trimmed(s); s != "" {
				want = append(want, s)
			}
		}
		if got := Concat(l); got != strings.Join(want, " ") {
			t.Fatalf("Concat(%q) = %q, not %q", l, got, want)
		}
		var inner []string
		wrong := false
		for _, s := range l {
			p, at := parts(s)
			wrong = wrong || at >= 0
			inner = append(inner, p...)
		}
		if got, e := Flat(joined(t, l)); wrong != (e == api.ErrSyntax) || !wrong && got != joined(t, inner) {
			t.Fatalf("Flat(%q) = %q, %d", l, got, e)
		}
	}
}

// Limits: the greatest that is right, and one more.
func TestLimits(t *testing.T) {
	most, more := strings.Repeat("a ", 10000), strings.Repeat("a ", 10001)
	x := strings.Repeat("x", 65536)
	for i, c := range []struct {
		do   func() (string, api.Errno)
		want api.Errno
	}{
		{func() (string, api.Errno) { return Canonical(most) }, 0}, {func() (string, api.Errno) { return Canonical(more) }, api.ErrLimit},
		{func() (string, api.Errno) { return Reverse(more) }, api.ErrLimit}, {func() (string, api.Errno) { return Range(more, "0", "0") }, api.ErrLimit}, {func() (string, api.Errno) { return Range(more, "q", "0") }, api.ErrSyntax}, {func() (string, api.Errno) { return Replace(more, "0", "0", nil) }, api.ErrLimit}, {func() (string, api.Errno) { return Insert(more, "0", nil) }, api.ErrLimit}, {func() (string, api.Errno) { return Insert(most, "0", nil) }, 0}, {func() (string, api.Errno) { return Insert(most, "0", []string{"x"}) }, api.ErrLimit},
		{func() (string, api.Errno) { return Repeat([]string{"a", "b"}, 5000) }, 0}, {func() (string, api.Errno) { return Repeat([]string{"a", "b"}, 5001) }, api.ErrLimit}, {func() (string, api.Errno) { return Repeat([]string{"a"}, 1<<62) }, api.ErrLimit}, {func() (string, api.Errno) { return Repeat(nil, 1<<62) }, 0}, {func() (string, api.Errno) { return Repeat(make([]string, 10001), 1) }, api.ErrLimit}, {func() (string, api.Errno) { return Repeat(make([]string, 10001), 0) }, 0},
		{func() (string, api.Errno) { return Join([]string{x}) }, 0}, {func() (string, api.Errno) { return Join([]string{x[1:], ""}) }, api.ErrLimit}, {func() (string, api.Errno) { return Join([]string{x[3:], ""}) }, 0}, {func() (string, api.Errno) { return Index(x, nil) }, 0}, {func() (string, api.Errno) { return Index(x+"x", nil) }, api.ErrLimit}, {func() (string, api.Errno) { return Set("", nil, x+"x") }, api.ErrLimit},
		{func() (string, api.Errno) { return Flat("{" + most + "}") }, 0}, {func() (string, api.Errno) { return Flat("{" + most + "} b") }, api.ErrLimit}, {func() (string, api.Errno) { return Flat("{" + more + "} \\{") }, api.ErrSyntax}, {func() (string, api.Errno) { return Flat("{" + more + "}") }, api.ErrLimit}, {func() (string, api.Errno) { return Sort(more, 0, false, true) }, api.ErrLimit}, {func() (string, api.Errno) { return Sort(most, 0, false, false) }, 0},
	} {
		if s, e := c.do(); e != c.want || e != api.OK && s != "" {
			t.Errorf("case %d: %d, not %d", i, e, c.want)
		}
	}
	if _, e := Search(more, "a", 0, 0); e != api.ErrLimit {
		t.Errorf("Search in too many: %d", e)
	}
	if n, e := Search(most, "b", 0, 9999); n != -1 || e != api.OK {
		t.Errorf("Search in many: %d, %d", n, e)
	}
}
