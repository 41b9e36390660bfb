package regex

import (
	"math/rand"
	"regexp"
	"slices"
	"strings"
	"testing"

	"threadbare/api"
)

// somePattern is one that the kit's own patterns know, too; it has no loops of what may be empty.
func somePattern(r *rand.Rand, deep int) (p string, empty bool) {
	empty = true
	for range 1 + r.Intn(3) {
		atom, nothing := "", false
		switch k := r.Intn(12); {
		case k < 4 || deep == 0:
			atom = []string{"a", "b", "c", "\\.", "\\+", "]", "}", ",", "-"}[r.Intn(9)]
		case k < 6:
			atom = []string{"[ab]", "[^a]", "[a-c]", "[^b-]", "[-a]", "[a-]", "[\\]b]", "[^\\-c]", "\\d", "\\w", "\\W", "\\D", ".", "[a\\d]", "[\\w-]", "[^\\d]"}[r.Intn(16)]
		case k == 6:
			p += []string{"^", "$", "\\y"}[r.Intn(3)]
			continue
		default:
			inner, e := somePattern(r, deep-1)
			if r.Intn(2) == 0 {
				other, e2 := somePattern(r, deep-1)
				inner, e = inner+"|"+other, e || e2
			}
			atom, nothing = []string{"(", "(?:"}[r.Intn(2)]+inner+")", e
		}
		again := []string{"", "", "", "?", "??", "{1}", "{2}", "{0,1}", "*", "+", "*?", "+?", "{1,}", "{2,3}", "{1,2}?", "{0}"}[r.Intn(16)]
		if nothing && strings.ContainsAny(again, "?*+{") {
			again = ""
		}
		p += atom + again
		empty = empty && (nothing || strings.HasPrefix(again, "?") || strings.HasPrefix(again, "*") || strings.HasPrefix(again, "{0"))
	}
	return p, empty
}

func TestAgainstTheKit(t *testing.T) {
	r := rand.New(rand.NewSource(11))
	found := 0
	for range 4000 {
		p, _ := somePattern(r, 2)
		fold, lines := r.Intn(3) == 0, r.Intn(3) == 0
		flags := "(?s)"
		if lines {
			flags = "(?m)"
			if strings.Contains(p, "[^") || strings.Contains(p, "\\D") || strings.Contains(p, "\\W") {
				lines, flags = false, "(?s)"
			}
		}
		if fold {
			flags += "(?i)"
		}
		kit, err := regexp.Compile(flags + strings.ReplaceAll(p, "\\y", "\\b"))
		if err != nil {
			t.Fatalf("%q: %v", p, err)
		}
		if !Valid(p) {
			t.Fatalf("Valid(%q)", p)
		}
		if n, _ := Groups(p); n != kit.NumSubexp() {
			t.Fatalf("Groups(%q) = %d", p, n)
		}
		for range 3 {
			b := make([]byte, r.Intn(7))
			for i := range b {
				b[i] = "aabbcAB1.+]},-\n _"[r.Intn(17)]
			}
			s := string(b)
			want := kit.FindStringSubmatchIndex(s)
			got, e := Find(p, s, 0, fold, lines)
			var flat []int
			for _, span := range got {
				flat = append(flat, span.From, span.To)
			}
			if want == nil && e != api.ErrNone || want != nil && (e != api.OK || !slices.Equal(flat, want)) {
				t.Fatalf("Find(%q, %q, %t, %t) = %v, %d, not %v", p, s, fold, lines, flat, e, want)
			}
			if want != nil {
				found++
			}
			whole := regexp.MustCompile(flags + "\\A(?:" + strings.ReplaceAll(p, "\\y", "\\b") + ")\\z").MatchString(s)
			if is, e := Match(p, s, fold, lines); is != whole || e != api.OK {
				t.Fatalf("Match(%q, %q, %t, %t) = %t", p, s, fold, lines, is)
			}
		}
	}
	if found < 3000 {
		t.Errorf("only %d were found", found)
	}
}

func TestAllBytes(t *testing.T) {
	word := func(c int) bool {
		return c >= '0' && c <= '9' || c >= 'a' && c <= 'z' || c >= 'A' && c <= 'Z' || c == '_'
	}
	for c := range 256 {
		s := string([]byte{byte(c)})
		has := map[string]bool{"\\d": c >= '0' && c <= '9', "\\w": word(c), "\\s": strings.Contains("\t\n\v\f\r ", s) && c < 128}
		for _, class := range []string{"\\d", "\\w", "\\s"} {
			in, out := has[class], !has[class]
			for p, want := range map[string]bool{class: in, strings.ToUpper(class): out, "[" + class + "]": in, "[^" + class + "]": out, "[x" + class + "]": in || c == 'x'} {
				if is, e := Match(p, s, false, false); is != want || e != api.OK {
					t.Errorf("Match(%q, %q) = %t, %d", p, s, is, e)
				}
			}
			if is, _ := Match(strings.ToUpper(class), s, false, true); is != (out && c != '\n') {
				t.Errorf("Match(%q, %q) by lines", strings.ToUpper(class), s)
			}
		}
		letter := c >= 'a' && c <= 'z' || c >= 'A' && c <= 'Z'
		alone := !strings.Contains("\\[()|*+?{^$.", s) || c > 127
		if is, e := Match(s, s, false, false); alone && (!is || e != api.OK) {
			t.Errorf("%q by itself: %t, %d", s, is, e)
		}
		escaped := !letter && !(c >= '0' && c <= '9')
		if is, e := Match("\\"+s, s, false, false); escaped && (!is || e != api.OK) {
			t.Errorf("%q behind a backslash: %t, %d", s, is, e)
		}
		if known := strings.Contains("dswDSWntry", s); !escaped && Valid("\\"+s) != known {
			t.Errorf("Valid(%q)", "\\"+s)
		}
		if want := alone; (Escape(s) == s) != want {
			t.Errorf("Escape(%q) = %q", s, Escape(s))
		}
		if got, ok := Literal("\\" + s); ok != escaped || ok && got != s {
			t.Errorf("Literal(%q) = %q, %t", "\\"+s, got, ok)
		}
		if got, ok := Literal("a" + s); ok != alone || ok && got != "a"+s {
			t.Errorf("Literal(%q) = %q, %t", "a"+s, got, ok)
		}
		other := strings.ToUpper(s)
		if c >= 'A' && c <= 'Z' {
			other = strings.ToLower(s)
		}
		if c > 127 {
			continue
		}
		if is, _ := Match(Escape(s), other, true, false); !is {
			t.Errorf("Match(%q, %q) with fold", Escape(s), other)
		}
		if is, _ := Match(Escape(s), other, false, false); is != (s == other) {
			t.Errorf("Match(%q, %q) without fold", Escape(s), other)
		}
		if letter {
			set := "[" + s + "-" + s + "]"
			if is, _ := Match(set, other, true, false); !is {
				t.Errorf("Match(%q, %q) with fold", set, other)
			}
			if is, _ := Match("[^"+s+"]", other, true, false); is {
				t.Errorf("Match of the others of %q with fold", s)
			}
			if is, _ := Match("(.)\\1", s+other, true, false); !is {
				t.Errorf("a back reference with fold: %q", s+other)
			}
			if is, _ := Match("(.)\\1", s+other, false, false); is {
				t.Errorf("a back reference without fold: %q", s+other)
			}
		}
	}
}

func TestCountsOfRepetitions(t *testing.T) {
	for p, want := range map[string]bool{"x{0}": true, "x{00}": true, "x{01}": true, "x{50}": true, "x{51}": false, "x{0,50}": true, "x{0,51}": false, "x{50,}": true, "x{51,}": false, "x{2,1}": false, "x{1,1}": true, "x{0,0}": true, "x{}": false, "x{,}": false, "x{,1}": false, "x{1": false, "x{1,": false, "x{1,2": false, "x{a}": false, "x{1a}": false, "x{001}": false, "x{1,002}": false, "x{9}": true, "x{/}": false, "x{:}": false, "x{1,/}": false, "x{-1}": false, "x{1}{1}": false, "x{1}*": false, "x**": false, "x*+": false, "x?+": false, "x*??": false, "x{1}??": false, "x+?": true, "x??": true, "x{1}?": true, "(?=x)*": false, "(?!x){2}": false, "^?": false, "$*": false, "\\y{1}": false, "()*": true, "(^)*": true, "a|*": false, "(+)": false, "(?:{1})": false} {
		if Valid(p) != want {
			t.Errorf("Valid(%q)", p)
		}
	}
	for n, want := range map[string]int{"": 0, "{0}": 0, "{1}": 1, "{3}": 3, "{2,}": 2, "{2,5}": 2, "*": 0, "+": 1, "?": 0} {
		for atom, least := range map[string]int{"x": 1, "(?:xy)": 2, "(?:x|yz)": 1, "(?:xyz|yz|wxyz)": 2, "(?:x(?=yy)\\y)": 1, "(x(\\1)y)": 2, "[xy]": 1, ".": 1} {
			if n == "" {
				want = 1
			}
			if got, e := Least(atom + n); got != want*least || e != api.OK {
				t.Errorf("Least(%q) = %d", atom+n, got)
			}
		}
	}
	for p, want := range map[string]int{"": 1, "a": 2, "ab": 3, "a|b": 4, "a|": 3, "a{5}": 6, "a{5,}": 7, "a{2,5}": 6, "a*": 2, "a+": 3, "a?": 2, "a{0}": 2, "(a)": 4, "(?:a|b)": 6, "(?=a)": 4, "(a)\\1": 5, "(?:a{3}){4}": 1 + 4*(1+1+3)} {
		if got, e := Size(p); got != want || e != api.OK {
			t.Errorf("Size(%q) = %d, not %d", p, got, want)
		}
	}
}

func TestBackAndAhead(t *testing.T) {
	for _, c := range []struct {
		p, s string
		want []api.Span
	}{
		{"(a)(b)(c)(d)(e)(f)(g)(h)(i)\\9", "abcdefghii", spans(0, 10, 0, 1, 1, 2, 2, 3, 3, 4, 4, 5, 5, 6, 6, 7, 7, 8, 8, 9)}, {"(ab|a)\\1", "aab", spans(0, 2, 0, 1)}, {"(ab|a)\\1", "abab", spans(0, 4, 0, 2)}, {"(a*)b\\1", "aabaa", spans(0, 5, 0, 2)}, {"(a*)b\\1c", "aabac", spans(1, 5, 1, 2)}, {"(a)?\\1b", "b", nil}, {"(a?)\\1b", "b", spans(0, 1, 0, 0)}, {"(?:(a)|b)\\1", "b", nil}, {"(a)|b\\1", "b", nil}, {"((a)|b)*\\2", "aba", spans(0, 3, 1, 2, 0, 1)}, {"(a\\1?)", "aa", spans(0, 1, 0, 1)}, {"(?:(a\\1)|a)", "aa", spans(0, 1, -1, -1)},
		{"a(?=bc)b", "abc", spans(0, 2)}, {"a(?=bc)b", "abd", nil}, {"a(?!bc)b", "abd", spans(0, 2)}, {"a(?!bc)b", "abc", nil}, {"(?=a*b)a", "aac", nil}, {"(?=a*b)a", "aab", spans(0, 1)}, {"(?!)", "a", nil}, {"(?=)", "a", spans(0, 0)}, {"(?=(?!b)a|c)[abc]", "bc", spans(1, 2)}, {"(?!a|b)[abc]", "abc", spans(2, 3)}, {"(?:(?=(?:ab)+c)a|b)*", "ababc", spans(0, 4)}, {"(?=$)", "a", spans(1, 1)}, {"(?=^b)b", "ab", nil},
		{"\\y", "", nil}, {"\\y", " a", spans(1, 1)}, {"a\\y", "ab a", spans(3, 4)}, {"\\y.", "_a", spans(0, 1)}, {"^", "", spans(0, 0)}, {"$", "", spans(0, 0)}, {"^$", "a", nil},
	} {
		got, e := Find(c.p, c.s, 0, false, false)
		if !slices.Equal(got, c.want) || (e == api.OK) != (c.want != nil) {
			t.Errorf("Find(%q, %q) = %v, %d, not %v", c.p, c.s, got, e, c.want)
		}
	}
	for _, c := range []struct {
		p, s string
		want string
		n    int
	}{{"(a)(b)?", "ab a", "[ab|a|b|] [a|a||]", 2}, {"x*", "axb", "[|||]a[x|||][|||]b[|||]", 4}} {
		if s, n, e := Replace(c.p, c.s, "[\\0|\\1|\\2|\\3]", true, false, false); s != c.want || n != c.n || e != api.OK {
			t.Errorf("Replace(%q, %q) = %q, %d", c.p, c.s, s, n)
		}
	}
	full := strings.Repeat("a", 65536)
	if s, n, e := Replace("a", full, "b", true, false, false); len(s) != 65536 || n != 65536 || e != api.OK {
		t.Errorf("Replace to the greatest length: %d", e)
	}
	if s, n, e := Replace("^", full, "b", false, false, false); s != "" || n != 0 || e != api.ErrLimit {
		t.Errorf("Replace to one more: %d", e)
	}
}
