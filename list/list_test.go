package list

import (
	"slices"
	"strconv"
	"strings"
	"testing"

	"threadbare/api"
)

func want(t *testing.T, what string, got string, e api.Errno, wanted string, code api.Errno) {
	t.Helper()
	if got != wanted || e != code {
		t.Errorf("%s: %q, %d, not %q, %d", what, got, e, wanted, code)
	}
}

var hard = []string{"", "a", "a b", "a{", "}a", "#x", "a#", "a\\", "a\\\\", "{a}", "a\\\nb", "\t\n\v\f\r", "\"", "a\"b", "[x]", "$y", ";", "\\{", "{\\}}", "#{", "\x00\xff", "{a} b", "\\x41", "a\\\\\n"}

func TestQuote(t *testing.T) {
	for s, q := range map[string]string{"": "{}", "a b": "{a b}", "a{": "a\\{", "#x": "{#x}", "x#": "x#", "#{": "\\#\\{", "a\\": "a\\\\", "a\\\\": "{a\\\\}", "a\\\nb": "a\\\\\\nb", "\\\\\n": "\\\\\\\\\\n", "\t}": "\\t\\}", "}{": "\\}\\{", "\\}": "{\\}}", " }\v\f\r": "\\ \\}\\v\\f\\r", "a]": "{a]}"} {
		if got := Quote(s); got != q {
			t.Errorf("Quote(%q) = %q, not %q", s, got, q)
		}
	}
	for _, s := range hard {
		l, _, e := Split(Quote(s))
		if e != api.OK || len(l) != 1 || l[0] != s {
			t.Errorf("%q does not come back: %q, %d", s, l, e)
		}
	}
	joined, e := Join(hard)
	l, _, e2 := Split(joined)
	if e != api.OK || e2 != api.OK || !slices.Equal(l, hard) || !IsCanonical(joined) {
		t.Errorf("Split of Join: %q, %d, %d", l, e, e2)
	}
}

func TestSplit(t *testing.T) {
	for s, parts := range map[string][]string{"a {b c} \"d\\te\"": {"a", "b c", "d\te"}, " \n": nil, "": nil, "a\\ b c": {"a b", "c"}, "a\\\n  b": {"a b"}, "x\"y a{b": {"x\"y", "a{b"}, "{a\\}b}": {"a\\}b"}, "\"a\\\"b\\\\\"": {"a\"b\\"}, "{a\\\n b}": {"a\\\n b"}, "a\\": {"a\\"}, "{} \"\"": {"", ""}} {
		l, at, e := Split(s)
		if e != api.OK || at != 0 || !slices.Equal(l, parts) {
			t.Errorf("Split(%q) = %q, %d, %d", s, l, at, e)
		}
	}
	for s, place := range map[string]int{"a{b \"}": 4, "a {b": 2, "{a}b": 0, "x \"a\"b": 2, "\"a": 0, " {a\\}": 1, "a {b}{c}": 2} {
		l, at, e := Split(s)
		if e != api.ErrSyntax || at != place || len(l) != 0 || Valid(s) || IsCanonical(s) {
			t.Errorf("Split(%q) = %q, %d, %d", s, l, at, e)
		}
	}
	many := strings.Repeat("a ", 10001)
	if _, _, e := Split(many); e != api.ErrLimit || Valid(many) {
		t.Errorf("Split of too many: %d", e)
	}
	if _, at, e := Split(many + "{"); e != api.ErrSyntax || at != 20002 {
		t.Errorf("Split of too many and wrong: %d, %d", at, e)
	}
	if n, e := Length(strings.Repeat("a ", 10000)); n != 10000 || e != api.OK {
		t.Errorf("Length = %d, %d", n, e)
	}
	if _, e := Length(many); e != api.ErrLimit {
		t.Error("Length of too many")
	}
	c, e := Canonical(" a  {b}\n\"c d\" ")
	want(t, "Canonical", c, e, "a b {c d}", 0)
	if IsCanonical("a  b") || !IsCanonical("a {b c}") || !IsCanonical("") || IsCanonical("{a}") {
		t.Error("IsCanonical")
	}
	if _, e := Join([]string{strings.Repeat("x", 65537)}); e != api.ErrLimit {
		t.Error("Join of too long a text")
	}
	if _, e := Join(make([]string, 10001)); e != api.ErrLimit {
		t.Error("Join of too many")
	}
}

func TestIndexAndSet(t *testing.T) {
	for _, c := range []struct {
		s    string
		path []string
		want string
		e    api.Errno
	}{
		{"a {b c} d", []string{"1", "0"}, "b", 0}, {" a  b ", nil, " a  b ", 0}, {"a b", []string{"end"}, "b", 0}, {"a b", []string{"2"}, "", 0}, {"a b", []string{"-1", "0", "7"}, "", 0},
		{"a b", []string{"x"}, "", api.ErrSyntax}, {"a {", []string{"0"}, "", api.ErrSyntax}, {"a {b\\{}", []string{"1", "0"}, "b{", 0}, {"a b\\{", []string{"9", "x"}, "", api.ErrSyntax},
		{strings.Repeat("a ", 10001), []string{"x"}, "", api.ErrSyntax}, {strings.Repeat("a ", 10001), []string{"0"}, "", api.ErrLimit},
	} {
		got, e := Index(c.s, c.path)
		want(t, "Index", got, e, c.want, c.e)
	}
	for _, c := range []struct {
		s     string
		path  []string
		value string
		want  string
		e     api.Errno
	}{
		{"a {b  c} d", []string{"1", "0"}, "x y", "a {{x y} c} d", 0}, {"a", nil, "{", "{", 0}, {"a  b", []string{"2"}, "", "a b {}", 0}, {"", []string{"0", "0"}, "x y", "{{x y}}", 0},
		{"a b", []string{"3"}, "x", "", api.ErrRange}, {"a b", []string{"-1"}, "x", "", api.ErrRange}, {"a b", []string{"9", "q"}, "x", "", api.ErrSyntax}, {"a {", []string{"0"}, "x", "", api.ErrSyntax},
		{"a", []string{"0"}, strings.Repeat("x", 65537), "", api.ErrLimit}, {"a", nil, strings.Repeat("x", 65537), "", api.ErrLimit}, {strings.Repeat("a ", 10000), []string{"10000"}, "x", "", api.ErrLimit},
		{strings.Repeat("a ", 10001), []string{"-1"}, "x", "", api.ErrRange},
	} {
		got, e := Set(c.s, c.path, c.value)
		want(t, "Set", got, e, c.want, c.e)
		if back, e2 := Index(got, c.path); e == api.OK && (e2 != api.OK || back != c.value) {
			t.Errorf("Index of Set: %q, %d", back, e2)
		}
	}
}

func TestRanges(t *testing.T) {
	for _, c := range []struct {
		s, from, to, want string
		e                 api.Errno
	}{{"a {b c} d", "1", "end", "{b c} d", 0}, {" a  b ", "-3", "99", "a b", 0}, {"a b", "1", "0", "", 0}, {"a b", "5", "9", "", 0}, {"", "0", "end", "", 0}, {"a", "0", "x", "", api.ErrSyntax}, {"{", "0", "0", "", api.ErrSyntax}} {
		got, e := Range(c.s, c.from, c.to)
		want(t, "Range", got, e, c.want, c.e)
	}
	for _, c := range []struct {
		s, from, to string
		with        []string
		want        string
		e           api.Errno
	}{{"a b c", "1", "1", []string{"x", "y z"}, "a x {y z} c", 0}, {"a b", "1", "0", []string{"x"}, "a x b", 0}, {"a b", "9", "9", []string{"x"}, "a b x", 0}, {"a b", "-5", "-3", []string{"x"}, "x a b", 0}, {"a b c", "0", "end", nil, "", 0}, {"a", "y", "0", nil, "", api.ErrSyntax}} {
		got, e := Replace(c.s, c.from, c.to, c.with)
		want(t, "Replace", got, e, c.want, c.e)
	}
	for _, c := range []struct {
		s, at, want string
		e           api.Errno
	}{{"a b", "end", "a b x", 0}, {"a b", "end-1", "a x b", 0}, {"a b", "0", "x a b", 0}, {"a b", "-9", "x a b", 0}, {"a b", "99", "a b x", 0}, {"a b", "e", "", api.ErrSyntax}} {
		got, e := Insert(c.s, c.at, []string{"x"})
		want(t, "Insert", got, e, c.want, c.e)
	}
	if _, e := Insert(strings.Repeat("a ", 10000), "0", []string{"x"}); e != api.ErrLimit {
		t.Error("Insert of one too many")
	}
	s, e := Reverse("a {b c} d")
	want(t, "Reverse", s, e, "d {b c} a", 0)
	s, e = Repeat([]string{"a b", ""}, 2)
	want(t, "Repeat", s, e, "{a b} {} {a b} {}", 0)
	s, e = Repeat([]string{"a"}, -1)
	want(t, "Repeat none", s, e, "", 0)
	s, e = Repeat([]string{"a"}, 10001)
	want(t, "Repeat too much", s, e, "", api.ErrLimit)
	s, e = Repeat(nil, 1<<62)
	want(t, "Repeat of none", s, e, "", 0)
	s, e = Flat("{a b} {} c {{d e} f}")
	want(t, "Flat", s, e, "a b c {d e} f", 0)
	s, e = Flat("a \\{")
	want(t, "Flat of no list", s, e, "", api.ErrSyntax)
	for at := range 4 {
		l := "a {b c} d"
		before, _ := Range(l, "0", strconv.Itoa(at-1))
		here, _ := Range(l, strconv.Itoa(at), strconv.Itoa(at))
		behind, _ := Range(l, strconv.Itoa(at+1), "end")
		if got := Concat([]string{before, here, behind}); got != l {
			t.Errorf("in pieces: %q", got)
		}
	}
}

func TestConcat(t *testing.T) {
	for _, c := range []struct {
		l    []string
		want string
	}{{[]string{" a b ", "", "\t", "c"}, "a b c"}, {nil, ""}, {[]string{"a\\ "}, "a\\ "}, {[]string{"a\\\\ "}, "a\\\\"}, {[]string{" a\\ \n "}, "a\\ "}, {[]string{"a {b c}", "d"}, "a {b c} d"}} {
		if got := Concat(c.l); got != c.want {
			t.Errorf("Concat(%q) = %q", c.l, got)
		}
	}
}

func TestSort(t *testing.T) {
	for _, c := range []struct {
		s            string
		kind         int
		down, unique bool
		want         string
		e            api.Errno
	}{
		{"10 9 1", 1, false, false, "1 9 10", 0}, {"10 9 1", 0, false, false, "1 10 9", 0}, {"b A a B", 2, false, false, "A a b B", 0}, {"b A a B", 2, true, false, "b B A a", 0},
		{"b A a B", 2, false, true, "a B", 0}, {"01 1 -1 2", 1, false, true, "-1 1 2", 0}, {"01 1 2", 1, true, false, "2 01 1", 0}, {"01 1 2", 1, true, true, "2 1", 0},
		{"a", 1, false, false, "", api.ErrKind}, {"1234567890123456789", 1, false, false, "", api.ErrKind}, {"-", 1, false, false, "", api.ErrKind}, {"+1", 1, false, false, "", api.ErrKind}, {"-999999999999999999 999999999999999999", 1, true, false, "999999999999999999 -999999999999999999", 0},
		{"{", 3, false, false, "", api.ErrInvalid}, {"{", -1, false, false, "", api.ErrInvalid}, {"{", 0, false, false, "", api.ErrSyntax},
		{strings.Repeat("a ", 10001), 1, false, true, "", api.ErrKind}, {strings.Repeat("a ", 10001), 0, false, true, "", api.ErrLimit},
	} {
		got, e := Sort(c.s, c.kind, c.down, c.unique)
		want(t, "Sort "+c.s[:min(len(c.s), 20)], got, e, c.want, c.e)
		if again, _ := Sort(got, c.kind, c.down, c.unique); e == api.OK && again != got {
			t.Errorf("sorted twice: %q, %q", got, again)
		}
	}
	for _, c := range []struct {
		s, pattern string
		kind, from int
		want       int
		e          api.Errno
	}{{"a b a", "a", 0, 1, 2, 0}, {"a b a", "a", 0, -5, 0, 0}, {"a b a", "a", 0, 3, -1, 0}, {"ax {b x}", "b*", 1, 0, 1, 0}, {"A B", "b", 1, 0, -1, 0}, {"A B", "b", 2, 0, 1, 0}, {"{", "b", 3, 0, 0, api.ErrInvalid}, {"{", "b", 2, 0, 0, api.ErrSyntax}, {"a", "*", 0, 0, -1, 0}} {
		if n, e := Search(c.s, c.pattern, c.kind, c.from); n != c.want || e != c.e {
			t.Errorf("Search(%q, %q, %d, %d) = %d, %d", c.s, c.pattern, c.kind, c.from, n, e)
		}
	}
}
