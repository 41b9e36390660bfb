package text

import (
	"strings"
	"testing"

	"threadbare/api"
)

func same(t *testing.T, what, got, want string) {
	t.Helper()
	if got != want {
		t.Errorf("%s: %q, not %q", what, got, want)
	}
}

func TestPieces(t *testing.T) {
	for c := range 256 {
		if White(byte(c)) != strings.Contains(" \t\n\v\f\r", string(rune(c))) {
			t.Errorf("White(%d)", c)
		}
	}
	same(t, "Range", Range("hello", 1, 3), "ell")
	same(t, "Range cut", Range("hello", -9, 99), "hello")
	same(t, "Range none", Range("hello", 4, 3)+Range("", 0, 5)+Range("ab", -3, -1), "")
	for _, c := range []struct{ got, want int }{
		{Compare("a", "ab"), -1}, {Compare("b", "ab"), 1}, {Compare("", ""), 0}, {Compare("\xff", "a"), 1},
		{First("b", "abab", 2), 3}, {First("b", "abab", -2), 1}, {First("", "abab", 0), -1}, {First("b", "b", 2), -1}, {First("b", "b", 1<<62), -1},
		{Last("ab", "abab", 99), 2}, {Last("ab", "abab", 1), 0}, {Last("", "ab", 1), -1}, {Last("a", "ab", -1), -1}, {Last("aa", "aaa", 1<<62), 1},
		{Count("aa", "aaaaa"), 2}, {Count("", "aa"), 0}, {Count("b", "aa"), 0},
	} {
		if c.got != c.want {
			t.Errorf("%d, not %d", c.got, c.want)
		}
	}
}

func TestLetters(t *testing.T) {
	same(t, "Reverse", Reverse("abc"), "cba")
	same(t, "Lower", Lower("aBZ[\xc4"), "abz[\xc4")
	same(t, "Upper", Upper("aBz{\xe4"), "ABZ{\xe4")
	same(t, "Title", Title("hELLO wORLD")+Title(""), "Hello world")
	same(t, "Trim", Trim("xyaxyx", "xy", true, true)+Trim("xax", "x", false, false)+Trim("xx", "x", true, true), "axax")
	same(t, "Trim left", Trim("xax", "x", true, false)+Trim("xax", "x", false, true), "axxa")
	same(t, "Detail", Detail(strings.Repeat("a", 41)), strings.Repeat("a", 40))
	for _, s := range []string{"", "a", "Ab\x00\xffz"} {
		same(t, "Reverse twice", Reverse(Reverse(s)), s)
		same(t, "Lower of Upper", Lower(Upper(s)), Lower(s))
	}
}

func TestRepeatAndReplace(t *testing.T) {
	for _, c := range []struct {
		s    string
		n    int
		want int
		e    api.Errno
	}{{"ab", 3, 6, 0}, {"ab", 0, 0, 0}, {"ab", -1 << 62, 0, 0}, {"ab", 32768, 65536, 0}, {"ab", 32769, 0, api.ErrLimit}, {"", 1 << 62, 0, 0}, {strings.Repeat("a", 65537), 1, 0, api.ErrLimit}} {
		if s, e := Repeat(c.s, c.n); e != c.e || len(s) != c.want {
			t.Errorf("Repeat(%d): %d bytes, %d", c.n, len(s), e)
		}
	}
	for _, c := range []struct {
		from, to int
		want     string
	}{{1, 2, "axd"}, {-1, 0, "xbcd"}, {3, 99, "abcx"}, {2, 1, "abcd"}, {9, 9, "abcd"}, {-3, -1, "abcd"}} {
		s, e := Replace("abcd", c.from, c.to, "x")
		if e != api.OK {
			t.Errorf("Replace: %d", e)
		}
		same(t, "Replace", s, c.want)
	}
	long := strings.Repeat("a", 65537)
	if s, e := Replace(long, 2, 1, ""); e != api.ErrLimit || s != "" {
		t.Error("Replace does not ask for the length where nothing is replaced")
	}
	if s, e := Replace(long, 0, 0, ""); e != api.OK || len(s) != 65536 {
		t.Error("Replace of too long a text by a shorter one")
	}
	a, _ := Repeat("xy", 3)
	b, _ := Repeat("xy", 4)
	c, _ := Repeat("xy", 7)
	same(t, "Repeat in parts", a+b, c)
	r, _ := Replace("hello", 1, 2, "--")
	same(t, "Range of Replace", Range(r, 1, 2), "--")
}

func TestMap(t *testing.T) {
	for _, c := range []struct {
		s     string
		pairs []string
		fold  bool
		want  string
	}{
		{"abab", []string{"a", "b", "b", "a"}, false, "baba"},
		{"aab", []string{"a", "1", "aa", "2"}, false, "11b"},
		{"aab", []string{"aa", "2", "a", "1"}, false, "2b"},
		{"abc", []string{"", "x", "c", ""}, false, "ab"},
		{"ABc", []string{"aB", "x"}, true, "xc"}, {"ABc", []string{"aB", "x"}, false, "ABc"},
		{"abc", nil, false, "abc"}, {"abab", []string{"ab", "ab"}, false, "abab"},
	} {
		s, e := Map(c.s, c.pairs, c.fold)
		if e != api.OK {
			t.Errorf("Map: %d", e)
		}
		same(t, "Map", s, c.want)
	}
	if _, e := Map(strings.Repeat("a", 70000), []string{"a"}, false); e != api.ErrInvalid {
		t.Error("Map: an odd number of pairs comes first")
	}
	if s, e := Map(strings.Repeat("a", 40000), []string{"a", "bb"}, false); e != api.ErrLimit || s != "" {
		t.Error("Map: too long")
	}
}

func TestGlob(t *testing.T) {
	for _, c := range []struct {
		pattern, s string
		fold, want bool
	}{
		{"a*[x-z]?", "abczq", false, true}, {"*", "", false, true}, {"", "", false, true}, {"", "a", false, false},
		{"a*b*c", "axbxc", false, true}, {"a*a", "a", false, false}, {"*a*b", "xaxbxb", false, true}, {"a*b", "ab\x00", false, false},
		{"[z-a]", "m", false, true}, {"[-a]", "-", false, true}, {"[a-]", "-", false, true}, {"[--a]", "A", false, true}, {"[]x]", "x]", false, false},
		{"a[", "a[", false, false}, {"*[", "x", false, false}, {"[\\]]", "\\]", false, true}, {"\\[a", "[a", false, true},
		{"\\*\\?", "*?", false, true}, {"\\*", "a", false, false}, {"a\\", "a\\", false, true},
		{"AbC", "aBc", true, true}, {"[A-C]x", "bX", true, true}, {"[a-c]", "B", true, true}, {"[a-c]", "B", false, false},
		{strings.Repeat("*a", 300) + "b", strings.Repeat("a", 3000), false, false},
	} {
		if Glob(c.pattern, c.s, c.fold) != c.want {
			t.Errorf("Glob(%q, %q, %t)", c.pattern, c.s, c.fold)
		}
	}
	for _, s := range []string{"", "a*[b]?\\", "\x00\xff*"} {
		escaped := ""
		for i := range len(s) {
			escaped += "\\" + s[i:i+1]
		}
		if !Glob(escaped, s, false) || Glob(escaped, s+"x", false) || !Glob(escaped+"*", s+"more", false) || !Glob("*", s, true) {
			t.Errorf("Glob of the escaped text %q", s)
		}
	}
}

func TestIs(t *testing.T) {
	members := map[string]string{"alnum": "azAZ09", "alpha": "azAZ", "digit": "09", "lower": "az", "upper": "AZ", "space": " \t\r", "print": " ~a", "xdigit": "09afAF"}
	others := map[string]string{"alnum": "_", "alpha": "0", "digit": "a", "lower": "A", "upper": "a", "space": "\x0e", "print": "\x7f", "xdigit": "g"}
	for name, s := range members {
		if ok, e := Is(name, s); !ok || e != api.OK {
			t.Errorf("Is(%s, %q)", name, s)
		}
		if ok, _ := Is(name, s+others[name]); ok {
			t.Errorf("Is(%s) of %q", name, others[name])
		}
		if ok, _ := Is(name, ""); !ok {
			t.Errorf("Is(%s) of nothing", name)
		}
	}
	if ok, e := Is("word", ""); ok || e != api.ErrName {
		t.Error("Is of no class")
	}
}

func TestPlace(t *testing.T) {
	for word, want := range map[string]int{"0": 0, "3": 3, "-0": 0, "-2": -2, "end": 4, "end-1": 3, "end+3": 7, "2+3": 5, "-2-1": -3, "999999999+999999999": 1999999998, "007": 7} {
		if n, e := Place(word, 5); e != api.OK || n != want {
			t.Errorf("Place(%q) = %d, %d", word, n, e)
		}
	}
	for _, word := range []string{"", "+5", "end+-1", "--1", "end1", "1 ", "1234567890", "1+", "end-", "en", "1+2+3", "1-1234567890", "-end"} {
		if n, e := Place(word, 5); e != api.ErrSyntax || n != 0 {
			t.Errorf("Place(%q) = %d, %d", word, n, e)
		}
	}
	if _, e := Place("x", -1); e != api.ErrRange {
		t.Error("Place: a length below 0 comes first")
	}
	if n, _ := Place("end", 0); n != -1 {
		t.Error("Place of end in nothing")
	}
}

func TestUnescape(t *testing.T) {
	for s, want := range map[string]struct {
		c string
		n int
	}{"\\n1": {"\n", 2}, "\\a": {"\a", 2}, "\\v": {"\v", 2}, "\\x4g": {"\x04", 3}, "\\x414": {"A", 4}, "\\xg": {"x", 2}, "\\1018": {"A", 4}, "\\777": {"\xff", 4}, "\\8": {"8", 2}, "\\": {"\\", 1}, "\\\n \t x": {" ", 5}, "\\\\": {"\\", 2}, "a": {"", 0}, "": {"", 0}} {
		if c, n := Unescape(s); c != want.c || n != want.n {
			t.Errorf("Unescape(%q) = %q, %d", s, c, n)
		}
	}
	same(t, "Unescaped", Unescaped("a\\tb\\x41\\101\\q\\\n  c\\"), "a\tbAAq c\\")
	same(t, "Unescaped plain", Unescaped("a b\x00"), "a b\x00")
}
