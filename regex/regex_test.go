package regex

import (
	"math/rand"
	"slices"
	"strings"
	"testing"

	"threadbare/api"
)

func TestCheck(t *testing.T) {
	for p, want := range map[string]struct {
		at int
		e  api.Errno
	}{
		"": {0, 0}, "a(b|c)*d": {0, 0}, "]}": {0, 0}, "x{2}": {0, 0}, "x{2,}?": {0, 0}, "x{0,50}": {0, 0}, "a||": {0, 0}, "()": {0, 0}, "(?:)": {0, 0}, "(?=a)(?!b|c)": {0, 0}, "[]a]": {0, 0}, "[^]a-]": {0, 0}, "[-a]": {0, 0}, "[--a]": {0, 0}, "[%--]": {0, 0}, "[a\\]-\\^[^]": {0, 0}, "[\\n-\\r\\d-]": {0, 0}, "(a)\\1": {0, 0}, "(a\\1)": {0, 0}, "\\y\\.\\_": {0, 0}, "[---]": {0, 0}, "[--]": {0, 0}, "[a-c--/]": {0, 0},
		"x{,3}": {1, 2}, "{": {0, 2}, "a|{2}": {2, 2}, "a**": {2, 2}, "a*??": {3, 2}, "^*": {1, 2}, "\\y+": {2, 2}, "(?=a)?": {5, 2}, "x{51}": {1, 2}, "x{3,2}": {1, 2}, "x{100}": {1, 2}, "x{2": {1, 2}, "x{2}{3}": {4, 2}, "*": {0, 2}, "a|+": {2, 2}, "(?": {1, 2}, "(?x)": {1, 2}, "(?=(a))": {3, 2}, "(a)(?=\\1)": {6, 2}, "\\1": {0, 2}, "(a)\\2": {3, 2}, "\\": {1, 2}, "a\\q": {1, 2}, "\\0": {0, 2},
		"(a": {2, 2}, "a)": {1, 2}, "(": {1, 2}, "[a": {2, 2}, "[]": {2, 2}, "[^]": {3, 2}, "[": {1, 2}, "[z-a]": {1, 2}, "[\\d-z]": {1, 2}, "[a-\\d]": {3, 2}, "[\\D]": {1, 2}, "[a\\": {3, 2}, "[a-": {2, 2}, "[a-b-": {4, 2}, "[--": {2, 2}, "[-": {2, 2}, "[a-c-e]": {4, 2}, "[\\d-": {3, 2}, "[a--]": {1, 2}, "[a-c-": {4, 2},
		strings.Repeat("(", 101) + strings.Repeat(")", 101): {0, 4}, strings.Repeat("(?:", 100) + strings.Repeat(")", 100): {0, 0}, strings.Repeat("(?:", 101) + strings.Repeat(")", 101): {0, 4}, strings.Repeat("()", 20): {0, 0}, strings.Repeat("()", 21): {0, 4}, strings.Repeat("a", 4999): {0, 0}, strings.Repeat("a", 5000): {0, 4}, strings.Repeat("()", 21) + "(": {43, 2}, "(?:(?:a{50}){50}){50}": {0, 4}, strings.Repeat("(?:", 100) + "a" + strings.Repeat("){50}", 100): {0, 4},
	} {
		if at, e := Check(p); at != want.at || e != want.e || Valid(p) != (e == 0) {
			t.Errorf("Check(%.30q) = %d, %d, not %d, %d", p, at, e, want.at, want.e)
		}
	}
	for p, want := range map[string][3]int{"": {0, 1, 0}, "a": {0, 2, 1}, "a|bc": {0, 5, 1}, "(a)": {1, 4, 1}, "a{3}": {0, 4, 3}, "a{2,}": {0, 4, 2}, "a*": {0, 2, 0}, "(a|b){0}": {1, 2, 0}, "(?=ab)c": {0, 6, 1}, "((a)\\1+)?": {2, 8, 0}, "^\\y$": {0, 4, 0}} {
		g, _ := Groups(p)
		s, _ := Size(p)
		l, _ := Least(p)
		if [3]int{g, s, l} != want {
			t.Errorf("%q has %d groups, the size %d, the least %d", p, g, s, l)
		}
	}
	if _, e := Size("("); e != api.ErrSyntax {
		t.Error("Size of a wrong pattern")
	}
	if _, e := Least(strings.Repeat("a", 5000)); e != api.ErrLimit {
		t.Error("Least of too great a pattern")
	}
}

func TestLiteral(t *testing.T) {
	all := ""
	for c := range 256 {
		all += string([]byte{byte(c)})
	}
	if s, ok := Literal(Escape(all)); !ok || s != all || !Valid(Escape(all)) {
		t.Error("Literal of Escape")
	}
	if Escape("a.b]") != "a\\.b]" {
		t.Error("Escape")
	}
	for _, p := range []string{"a*", "\\d", "\\1", "\\", "(a)", "[a]", ".", "^", "a|b", "a{2}"} {
		if s, ok := Literal(p); ok || s != "" {
			t.Errorf("Literal(%q)", p)
		}
	}
	if s, ok := Literal("\\_]\\-"); !ok || s != "_]-" {
		t.Error("Literal with backslashes")
	}
	if m, e := Find(Escape("b.c"), "abxcb.c", 0, false, false); e != api.OK || m[0] != (api.Span{From: 4, To: 7}) {
		t.Errorf("Find of Escape: %v", m)
	}
}

func spans(n ...int) []api.Span {
	var out []api.Span
	for i := 0; i < len(n); i += 2 {
		out = append(out, api.Span{From: n[i], To: n[i+1]})
	}
	return out
}

func TestFind(t *testing.T) {
	for _, c := range []struct {
		p, s        string
		from        int
		fold, lines bool
		want        []api.Span
	}{
		{"a(b|c)*d", "xabcd", 0, false, false, spans(1, 5, 3, 4)}, {"(a*?)(a*)", "aa", 0, false, false, spans(0, 2, 0, 0, 0, 2)}, {"(a|ab)(c|bcd)", "abcd", 0, false, false, spans(0, 4, 0, 1, 1, 4)},
		{"(a*)*", "b", 0, false, false, spans(0, 0, -1, -1)}, {"(a*)+", "b", 0, false, false, spans(0, 0, 0, 0)}, {"(a)|b", "b", 0, false, false, spans(0, 1, -1, -1)}, {"(?:(a)|b)*", "ab", 0, false, false, spans(0, 2, 0, 1)}, {"a{2,3}?", "aaaa", 0, false, false, spans(0, 2)}, {"a{2,3}", "aaaa", 0, false, false, spans(0, 3)}, {"a{0}b", "ab", 0, false, false, spans(1, 2)},
		{"^b", "ab", 1, false, false, nil}, {"^b", "a\nb", 0, false, true, spans(2, 3)}, {"a$", "a\nb", 0, false, true, spans(0, 1)}, {"a.b", "a\nb", 0, false, true, nil}, {"a.b", "a\nb", 0, false, false, spans(0, 3)}, {"[^x]", "\n", 0, false, true, nil}, {"\\D|\\S|\\W", "\n", 0, false, true, nil}, {"\\s", "\n", 0, false, true, spans(0, 1)},
		{"\\yb\\y", "ab b", 0, false, false, spans(3, 4)}, {"(a)\\1", "xaAa", 0, false, false, nil}, {"(a)\\1", "xaA", 0, true, false, spans(1, 3, 1, 2)}, {"[^a]", "Ab", 0, true, false, spans(1, 2)}, {"[A-C]+", "xabcd", 0, true, false, spans(1, 4)}, {"a(?=b)", "aab", 0, false, false, spans(1, 2)}, {"a(?!b)", "aba", 0, false, false, spans(2, 3)}, {"(a\\1|b)+", "ba", 0, false, false, spans(0, 1, 0, 1)}, {"(?:(a)|b\\1){2}", "aba", 0, false, false, spans(0, 3, 0, 1)},
		{"", "ab", 2, false, false, spans(2, 2)}, {"b*", "abb", 0, false, false, spans(0, 0)}, {"\\d+", "ab12", 0, false, false, spans(2, 4)},
	} {
		m, e := Find(c.p, c.s, c.from, c.fold, c.lines)
		if !slices.Equal(m, c.want) || (e == api.OK) != (c.want != nil) {
			t.Errorf("Find(%q, %q) = %v, %d", c.p, c.s, m, e)
		}
	}
	long := strings.Repeat("a", 65537)
	for i, c := range []struct {
		p, s string
		from int
		want api.Errno
	}{{"(", long, -1, api.ErrSyntax}, {strings.Repeat("a", 5000), long, -1, api.ErrLimit}, {"a", long, -1, api.ErrRange}, {"a", "b", 2, api.ErrRange}, {"a", long, 0, api.ErrLong}, {"a", "b", 0, api.ErrNone}, {"(a)\\1", long[:201], 0, api.ErrLong}, {"(?=a)", long[:201], 0, api.ErrLong}, {"(a)\\1", long[:200], 0, 0}, {"a", long[:65536], 0, 0}} {
		if _, e := Find(c.p, c.s, c.from, false, false); e != c.want {
			t.Errorf("case %d: %d, not %d", i, e, c.want)
		}
	}
}

func TestHardOnes(t *testing.T) {
	long := strings.Repeat("a", 65536)
	for _, p := range []string{"(a*)*b", "(a|a)*b", "(?:a?){50}b", "(((a*)*)*)*b", "a*a*a*a*b"} {
		if _, e := Find(p, long, 0, false, false); e != api.ErrNone {
			t.Errorf("Find(%q): %d", p, e)
		}
	}
	if n, e := Count("a*b|a", long, false, false); n != 65536 || e != api.OK {
		t.Errorf("Count = %d, %d", n, e)
	}
	if ok, e := Match("(a*)*\\1b", long[:60], false, false); ok || e != api.OK {
		t.Error("Match with a back reference")
	}
	if ok, e := Match("(?:(?=a*b)a)*", long[:200], false, false); ok || e != api.OK {
		t.Error("Match with a look ahead")
	}
}

func TestChanges(t *testing.T) {
	for _, c := range []struct {
		p, s, with string
		all        bool
		want       string
		n          int
	}{{"(.)(.)", "abcd", "\\2\\1", true, "badc", 2}, {"b*", "abc", "-", true, "-a--c-", 4}, {"b", "abab", "[&\\0]", false, "a[bb]ab", 1}, {"x", "ab", "y", true, "ab", 0}, {"(b)|c", "bc", "<\\1\\2\\&\\\\\\x\\", true, "<b&\\\\x\\<&\\\\x\\", 2}, {"", "ab", "-", true, "-a-b-", 3}} {
		s, n, e := Replace(c.p, c.s, c.with, c.all, false, false)
		if s != c.want || n != c.n || e != api.OK {
			t.Errorf("Replace(%q, %q, %q) = %q, %d, %d", c.p, c.s, c.with, s, n, e)
		}
	}
	if s, n, e := Replace("a", strings.Repeat("a", 40000), "bb", true, false, false); s != "" || n != 0 || e != api.ErrLimit {
		t.Error("Replace by too much")
	}
	for i, c := range []struct {
		m []api.Span
		e api.Errno
	}{{nil, api.ErrRange}, {spans(0, 4), api.ErrRange}, {spans(2, 1), api.ErrRange}, {spans(-2, 1), api.ErrRange}, {spans(0, 1, 1, 9), api.ErrRange}, {spans(0, 1, -1, 7), 0}} {
		if _, e := Expand("&\\1", "abc", c.m); e != c.e {
			t.Errorf("Expand %d: %d", i, e)
		}
	}
	for _, c := range []struct {
		p, s string
		want []string
	}{{",", "a,b,", []string{"a", "b", ""}}, {"x*", "axb", []string{"a", "b"}}, {"", "ab", []string{"ab"}}, {",", "", []string{""}}} {
		if l, e := Split(c.p, c.s, false, false); !slices.Equal(l, c.want) || e != api.OK {
			t.Errorf("Split(%q, %q) = %q", c.p, c.s, l)
		}
	}
	l, _ := All("a|", "aba", false, false)
	if len(l) != 4 || l[0][0] != (api.Span{From: 0, To: 1}) || l[1][0].From != 1 || l[2][0].From != 2 || l[3][0].From != 3 {
		t.Errorf("All = %v", l)
	}
}

// budget bounds the telling of ways: there may be very many.
var budget int

// ways is the chapter's own telling: each way goes on with more, in order, until one has an end.
func ways(p node, s string, at int, g []int, more func(int) bool) bool {
	if budget--; budget < 0 {
		return false
	}
	switch p := p.(type) {
	case oneByte:
		return at < len(s) && p.set[s[at]] != p.not && more(at+1)
	case place:
		return (p.mark == '^') == (at == 0) && (p.mark == '$') == (at == len(s)) && more(at)
	case look:
		return ways(p.of, s, at, g, func(int) bool { return true }) != p.not && more(at)
	case group:
		return ways(p.of, s, at, g, func(end int) bool {
			if p.number == 0 {
				return more(end)
			}
			a, b := g[2*p.number], g[2*p.number+1]
			g[2*p.number], g[2*p.number+1] = at, end
			if more(end) {
				return true
			}
			g[2*p.number], g[2*p.number+1] = a, b
			return false
		})
	case backward:
		from, to := g[2*p.number], g[2*p.number+1]
		return from >= 0 && strings.HasPrefix(s[at:], s[from:to]) && more(at+to-from)
	case repeat:
		if p.from > 0 {
			rest := p
			rest.from--
			rest.most = max(p.most-1, -1)
			return ways(p.of, s, at, g, func(end int) bool { return ways(rest, s, end, g, more) })
		}
		rest := p
		rest.most = max(p.most-1, -1)
		once := func() bool {
			return p.most != 0 && ways(p.of, s, at, g, func(end int) bool { return end > at && ways(rest, s, end, g, more) })
		}
		if p.lazy {
			return more(at) || once()
		}
		return once() || more(at)
	case sequence:
		if len(p) == 0 {
			return more(at)
		}
		return ways(p[0], s, at, g, func(end int) bool { return ways(p[1:], s, end, g, more) })
	case choice:
		for _, b := range p {
			if ways(b, s, at, g, more) {
				return true
			}
		}
	}
	return false
}

func randomPattern(r *rand.Rand, deep int) string {
	out := ""
	for range r.Intn(4) {
		switch k := r.Intn(10); {
		case k < 4 || deep == 0:
			out += string("ab"[r.Intn(2)])
		case k < 7:
			out += "(" + randomPattern(r, deep-1) + ")"
		case k == 7:
			out += "(?:" + randomPattern(r, deep-1) + "|" + randomPattern(r, deep-1) + ")"
		case k == 8:
			out += []string{"(?=a)", "(?!b)", "\\1", "."}[r.Intn(4)]
			continue
		default:
			out += "[ab]"
		}
		out += []string{"", "", "*", "+", "?", "*?", "+?", "??", "{2}", "{1,2}", "{0,2}?", "{2,}"}[r.Intn(12)]
	}
	return out
}

func TestAgainstWays(t *testing.T) {
	r := rand.New(rand.NewSource(7))
	tried := 0
	for range 12000 {
		p := randomPattern(r, 3)
		tree, _, e := read(p)
		if e != api.OK || tree.groups > 9 {
			continue
		}
		tried++
		s := ""
		for range r.Intn(7) {
			s += string("ab"[r.Intn(2)])
		}
		budget = 20000
		var want []api.Span
		for at := 0; at <= len(s) && want == nil; at++ {
			g := slices.Repeat([]int{-1}, 2*tree.groups+2)
			if ways(tree.top, s, at, g, func(end int) bool { g[1] = end; return true }) {
				g[0] = at
				want = spans(g...)
			}
		}
		if budget < 0 {
			continue
		}
		if got, _ := Find(p, s, 0, false, false); !slices.Equal(got, want) {
			t.Fatalf("Find(%q, %q) = %v, not %v", p, s, got, want)
		}
		whole := ways(tree.top, s, 0, slices.Repeat([]int{-1}, 2*tree.groups+2), func(end int) bool { return end == len(s) })
		if got, _ := Match(p, s, false, false); got != whole && budget >= 0 {
			t.Fatalf("Match(%q, %q) = %t", p, s, got)
		}
		all, _ := All(p, s, false, false)
		from := 0
		for _, m := range all {
			if one, e := Find(p, s, from, false, false); e != api.OK || !slices.Equal(one, m) {
				t.Fatalf("All(%q, %q) has %v, Find from %d %v", p, s, m, from, one)
			}
			if from = m[0].To; m[0].From == m[0].To {
				from++
			}
		}
		if back, _, _ := Replace(p, s, "&", true, false, false); back != s {
			t.Fatalf("Replace(%q, %q) by & = %q", p, s, back)
		}
	}
	if tried < 3000 {
		t.Errorf("only %d patterns were tried", tried)
	}
}
