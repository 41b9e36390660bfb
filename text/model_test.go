package text

import (
	"math/rand"
	"regexp"
	"strconv"
	"strings"
	"testing"

	"threadbare/api"
)

// The functions are held against the plainest ways to do the same.

func some(r *rand.Rand, letters string, most int) string {
	b := make([]byte, r.Intn(most+1))
	for i := range b {
		b[i] = letters[r.Intn(len(letters))]
	}
	return string(b)
}

func plainRange(s string, from, to int) string {
	out := ""
	for i := range len(s) {
		if i >= from && i <= to {
			out += s[i : i+1]
		}
	}
	return out
}

func plainPlaces(needle, s string) []int {
	var out []int
	for i := range len(s) {
		if needle != "" && strings.HasPrefix(s[i:], needle) {
			out = append(out, i)
		}
	}
	return out
}

func TestSearchesAsPlainOnes(t *testing.T) {
	r := rand.New(rand.NewSource(1))
	for range 20000 {
		s, needle := some(r, "abc", 8), some(r, "abc", 3)
		from, to := r.Intn(14)-3, r.Intn(14)-3
		if got, want := Range(s, from, to), plainRange(s, from, to); got != want {
			t.Fatalf("Range(%q, %d, %d) = %q, not %q", s, from, to, got, want)
		}
		first, last, count, free := -1, -1, 0, 0
		for _, i := range plainPlaces(needle, s) {
			if first < 0 && i >= from {
				first = i
			}
			if i <= to {
				last = i
			}
			if i >= free {
				count, free = count+1, i+len(needle)
			}
		}
		if First(needle, s, from) != first || Last(needle, s, to) != last || Count(needle, s) != count {
			t.Fatalf("%q in %q from %d to %d: %d, %d, %d, not %d, %d, %d", needle, s, from, to, First(needle, s, from), Last(needle, s, to), Count(needle, s), first, last, count)
		}
		want := s
		if i, j := max(from, 0), min(to, len(s)-1); i <= j {
			want = s[:i] + needle + s[j+1:]
		}
		if got, e := Replace(s, from, to, needle); got != want || e != api.OK {
			t.Fatalf("Replace(%q, %d, %d, %q) = %q, not %q", s, from, to, needle, got, want)
		}
		order := 0
		if s < needle {
			order = -1
		} else if s > needle {
			order = 1
		}
		if Compare(s, needle) != order {
			t.Fatalf("Compare(%q, %q)", s, needle)
		}
		left, right := s, s
		for left != "" && strings.Contains(needle, left[:1]) {
			left = left[1:]
		}
		for right != "" && strings.Contains(needle, right[len(right)-1:]) {
			right = right[:len(right)-1]
		}
		if Trim(s, needle, true, false) != left || Trim(s, needle, false, true) != right || Trim(s, needle, false, false) != s || Trim(s, needle, true, true) != Trim(left, needle, false, true) {
			t.Fatalf("Trim(%q, %q)", s, needle)
		}
	}
}

func TestMapAsAPlainOne(t *testing.T) {
	r := rand.New(rand.NewSource(2))
	for range 20000 {
		s, fold := some(r, "abAB", 8), r.Intn(2) == 0
		var pairs []string
		for range 2 * r.Intn(4) {
			pairs = append(pairs, some(r, "abAB-", 2))
		}
		want := ""
	places:
		for i := 0; i < len(s); {
			for k := 0; k < len(pairs); k += 2 {
				n := len(pairs[k])
				if n > 0 && i+n <= len(s) && (s[i:i+n] == pairs[k] || fold && strings.EqualFold(s[i:i+n], pairs[k])) {
					want += pairs[k+1]
					i += n
					continue places
				}
			}
			want += s[i : i+1]
			i++
		}
		if got, e := Map(s, pairs, fold); got != want || e != api.OK {
			t.Fatalf("Map(%q, %q, %t) = %q, %d, not %q", s, pairs, fold, got, e, want)
		}
	}
	full := strings.Repeat("a", 32768)
	if s, e := Map(full, []string{"a", "xy"}, false); len(s) != 65536 || e != api.OK {
		t.Errorf("Map to the greatest length: %d, %d", len(s), e)
	}
	if s, e := Map(full+"b", []string{"a", "xy"}, false); s != "" || e != api.ErrLimit {
		t.Errorf("Map to one more: %d, %d", len(s), e)
	}
	if s, e := Replace(full+full, 0, 0, "x"); len(s) != 65536 || e != api.OK {
		t.Errorf("Replace to the greatest length: %d, %d", len(s), e)
	}
}

// matches goes through a pattern as the chapter tells it.
func matches(p, s string, fold bool) bool {
	same := func(a, b byte) bool {
		return a == b || fold && strings.EqualFold(string([]byte{a}), string([]byte{b}))
	}
	if p == "" {
		return s == ""
	}
	switch p[0] {
	case '*':
		for i := range len(s) + 1 {
			if matches(p[1:], s[i:], fold) {
				return true
			}
		}
		return false
	case '?':
		return s != "" && matches(p[1:], s[1:], fold)
	case '[':
		end := strings.IndexByte(p, ']')
		if end < 0 || s == "" {
			return false
		}
		in := false
		for set := p[1:end]; set != ""; {
			low, high, n := set[0], set[0], 1
			if len(set) > 2 && set[1] == '-' {
				low, high, n = min(set[0], set[2]), max(set[0], set[2]), 3
			}
			set = set[n:]
			for c := range 256 {
				in = in || c >= int(low) && c <= int(high) && same(byte(c), s[0])
			}
		}
		return in && matches(p[end+1:], s[1:], fold)
	case '\\':
		if len(p) > 1 {
			p = p[1:]
		}
	}
	return s != "" && same(p[0], s[0]) && matches(p[1:], s[1:], fold)
}

// unclosed reports whether a bracket that is none by a backslash lacks its end.
func unclosed(p string) bool {
	for i := 0; i < len(p); i++ {
		switch p[i] {
		case '\\':
			i++
		case '[':
			n := strings.IndexByte(p[i:], ']')
			if n < 0 {
				return true
			}
			i += n
		}
	}
	return false
}

func TestGlobAsAPlainOne(t *testing.T) {
	r := rand.New(rand.NewSource(3))
	hits := 0
	for range 60000 {
		p, s, fold := some(r, "aab*?[]-\\Bc", 7), some(r, "abABc-]", 5), r.Intn(2) == 0
		want := !unclosed(p) && matches(p, s, fold)
		if got := Glob(p, s, fold); got != want {
			t.Fatalf("Glob(%q, %q, %t) = %t", p, s, fold, got)
		}
		if want {
			hits++
		}
	}
	if hits < 1000 {
		t.Errorf("only %d hits", hits)
	}
}

func TestPlaceAsAPattern(t *testing.T) {
	form := regexp.MustCompile(`^(end|-?[0-9]{1,9})([+-][0-9]{1,9})?$`)
	r := rand.New(rand.NewSource(4))
	for range 40000 {
		word, n := some(r, "019-+", 6), r.Intn(9)
		if r.Intn(2) == 0 {
			word = "end" + word
		}
		m := form.FindStringSubmatch(word)
		want := 0
		if m != nil {
			want = n - 1
			if m[1] != "end" {
				want, _ = strconv.Atoi(m[1])
			}
			if m[2] != "" {
				more, _ := strconv.Atoi(m[2])
				want += more
			}
		}
		got, e := Place(word, n)
		if got != want || (e == api.OK) != (m != nil) || e != api.OK && e != api.ErrSyntax {
			t.Fatalf("Place(%q, %d) = %d, %d, not %d", word, n, got, e, want)
		}
	}
}

func TestEscapesOfAllBytes(t *testing.T) {
	known := map[byte]string{'a': "\a", 'b': "\b", 'f': "\f", 'n': "\n", 'r': "\r", 't': "\t", 'v': "\v", '\n': " "}
	for c := range 256 {
		s := "\\" + string([]byte{byte(c)})
		want, is := known[byte(c)]
		if !is {
			want = s[1:]
		}
		if c >= '0' && c <= '7' {
			want = string([]byte{byte(c - '0')})
		}
		if got, n := Unescape(s + "-"); got != want || n != 2 {
			t.Errorf("Unescape(%q) = %q, %d", s, got, n)
		}
		for _, hex := range []string{strconv.FormatInt(int64(c), 16), "0" + strconv.FormatInt(int64(c), 16)} {
			text := "\\x" + strings.ToUpper(hex[max(0, len(hex)-2):])
			if got, n := Unescape(text + "g"); got != string([]byte{byte(c)}) || n != len(text) {
				t.Errorf("Unescape(%q) = %q, %d", text, got, n)
			}
		}
		octal := "\\" + strconv.FormatInt(int64(c), 8)
		if got, n := Unescape(octal + "8"); got != string([]byte{byte(c)}) || n != len(octal) {
			t.Errorf("Unescape(%q) = %q, %d", octal, got, n)
		}
	}
	for s, n := range map[string]int{"\\1234": 4, "\\x123": 4, "\\x": 2, "\\xg1": 2, "\\x/": 2, "\\x:": 2, "\\x@": 2, "\\xG": 2, "\\x`": 2, "\\400": 4, "\\18": 2, "\\\n": 2, "\\\n \t ": 5, "\\\n\n": 2} {
		if _, got := Unescape(s); got != n {
			t.Errorf("Unescape(%q) takes %d bytes", s, got)
		}
	}
	if c, _ := Unescape("\\400"); c != "\x00" {
		t.Errorf("Unescape is modulo 256: %q", c)
	}
}

func TestClassesOfAllBytes(t *testing.T) {
	forms := map[string]string{"alnum": `[A-Za-z0-9]`, "alpha": `[A-Za-z]`, "digit": `[0-9]`, "lower": `[a-z]`, "upper": `[A-Z]`, "space": `[\t-\r ]`, "print": `[ -~]`, "xdigit": `[0-9a-fA-F]`}
	for name, form := range forms {
		re := regexp.MustCompile("^" + form + "$")
		for c := range 128 {
			s := string([]byte{byte(c)})
			if is, e := Is(name, s); is != re.MatchString(s) || e != api.OK {
				t.Errorf("Is(%s, %q) = %t", name, s, is)
			}
		}
		if is, _ := Is(name, "\x80"); is {
			t.Errorf("Is(%s) of a byte beyond 127", name)
		}
	}
	for c := range 256 {
		s := string([]byte{byte(c)})
		lower, upper := s, s
		if c < 128 {
			lower, upper = strings.ToLower(s), strings.ToUpper(s)
		}
		if Lower(s) != lower || Upper(s) != upper || Title(s+s) != upper+lower {
			t.Errorf("the forms of %q: %q, %q, %q", s, Lower(s), Upper(s), Title(s+s))
		}
	}
}
