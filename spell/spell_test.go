package spell

import (
	"slices"
	"strings"
	"testing"

	"threadbare/api"
	"threadbare/list"
)

var long = "1" + strings.Repeat("0", 600)

func TestFormat(t *testing.T) {
	for _, c := range []struct {
		spec string
		args []string
		want string
		at   int
		e    api.Errno
	}{
		{"%05d|%-4s|%#x", []string{"-42", "ab", "255"}, "-0042|ab  |0xff", 0, 0}, {"%#d %+.3d %-5s|", []string{"7", "7", "ab"}, "7 +007 ab   |", 0, 0}, {"%.0d", []string{"0"}, "0", 0, 0}, {"%%a%%", nil, "%a%", 0, 0}, {"", []string{"x"}, "", 0, 0},
		{"%X %#X %o %#o %b %#b", []string{"-255", "171", "8", "8", "5", "0"}, "-FF 0XAB 10 0o10 101 0b0", 0, 0}, {"%08x|%#08x|%-08d|%08.3d", []string{"255", "-255", "7", "7"}, "000000ff|-0x000ff|7       |     007", 0, 0}, {"% d|%+ d|%+d", []string{"7", "7", "-7"}, " 7|+7|-7", 0, 0},
		{"%c%5c|%-3c|%.9c", []string{"65", "0x42", "67", "255"}, "A    B|C  |\xff", 0, 0}, {"%q|%.3q|%05s", []string{"a b", "a b", "ab"}, "{a b}|{a |   ab", 0, 0}, {"%2$s%1$s%2$d", []string{"a", "3"}, "3a3", 0, 0}, {"%*d|%-*d|%*d", []string{"4", "1", "4", "2", "-4", "3"}, "   1|2   |3   ", 0, 0}, {"%.*s|%.*s|%*.*d", []string{"2", "abc", "-1", "abc", "6", "3", "7"}, "ab|abc|   007", 0, 0}, {"%1$5d%%", []string{"1"}, "    1%", 0, 0}, {"%-+0 #-x", []string{"1"}, "+0x1", 0, 0},
		{"%", nil, "", 0, api.ErrSyntax}, {"ab%5%", nil, "", 2, api.ErrSyntax}, {"%z", nil, "", 0, api.ErrSyntax}, {"%1000d", []string{"1"}, "", 0, api.ErrSyntax}, {"%.d", []string{"1"}, "", 0, api.ErrSyntax}, {"%.1000d", []string{"1"}, "", 0, api.ErrSyntax}, {"%d%1$d", []string{"1"}, "", 2, api.ErrSyntax}, {"%1$d%%%d", []string{"1"}, "", 6, api.ErrSyntax}, {"%1$*d", []string{"1"}, "", 0, api.ErrSyntax}, {"%100$d", nil, "", 0, api.ErrSyntax}, {"%0$d", nil, "", 0, api.ErrSyntax},
		{"%d%d", []string{"1"}, "", 2, api.ErrNone}, {"%2$d", []string{"1"}, "", 0, api.ErrNone}, {"%d%z", nil, "", 0, api.ErrNone}, {"%s%d", []string{"a", "b"}, "", 2, api.ErrKind}, {"%c", []string{"x"}, "", 0, api.ErrKind}, {"%*d", []string{"x"}, "", 0, api.ErrKind}, {"%c", []string{"256"}, "", 0, api.ErrRange}, {"%c", []string{long}, "", 0, api.ErrRange}, {"%*d", []string{"1000"}, "", 0, api.ErrRange}, {"%.*d", []string{"-1000", "x"}, "", 0, api.ErrRange}, {"%*d", []string{long, "1"}, "", 0, api.ErrRange}, {"%*d", []string{"1"}, "", 0, api.ErrNone},
		{"%d", []string{long}, "", 0, api.ErrLimit}, {"a%s", []string{strings.Repeat("x", 65536)}, "", 1, api.ErrLimit}, {strings.Repeat("x", 65537) + "%", nil, "", 0, api.ErrLimit}, {strings.Repeat("x", 65536) + "%%", nil, "", 65536, api.ErrLimit},
	} {
		s, at, e := Format(c.spec, c.args)
		if s != c.want || at != c.at || e != c.e {
			t.Errorf("Format(%.20q, %.20q) = %.20q, %d, %d, not %q, %d, %d", c.spec, c.args, s, at, e, c.want, c.at, c.e)
		}
	}
	for spec, want := range map[string]int{"": 0, "%d%%%s": 2, "%*.*d": 3, "%3$d%1$s": 3, "%.*s": 2} {
		if n, e := Needs(spec); n != want || e != api.OK {
			t.Errorf("Needs(%q) = %d, %d", spec, n, e)
		}
	}
	if n, e := Needs("%d%"); n != 0 || e != api.ErrSyntax {
		t.Errorf("Needs of a wrong one: %d, %d", n, e)
	}
	for _, c := range []struct {
		spec string
		scan bool
		at   int
		e    api.Errno
	}{{"a%d%%", false, 0, 0}, {"a%z", false, 1, 2}, {"%d %1$d", false, 3, 2}, {"%q", true, 0, 2}, {"%q", false, 0, 0}, {"%n %[a]", true, 0, 0}, {"a%[", true, 1, 2}, {"%5c", true, 0, 2}, {"%*%", true, 0, 2}, {"%5n", true, 0, 2}, {"%0d", true, 0, 2}, {"%", true, 0, 2}, {"%1000d", true, 0, 2}, {"%[^]", true, 0, 2}} {
		if at, e := Check(c.spec, c.scan); at != c.at || e != c.e {
			t.Errorf("Check(%q, %t) = %d, %d", c.spec, c.scan, at, e)
		}
	}
}

func TestScan(t *testing.T) {
	for _, c := range []struct {
		s, spec string
		want    []string
		done    int
		e       api.Errno
	}{
		{"10, ff rest", "%d, %x %s", []string{"10", "255", "rest"}, 3, 0}, {" -007 +5", "%d%d", []string{"-7", "5"}, 2, 0}, {"0x10", "%x", []string{"0"}, 1, 0}, {"FfG", "%x%s", []string{"255", "G"}, 2, 0}, {"101 2", "%b %b", []string{"5"}, 1, 0}, {"178", "%o%d", []string{"15", "8"}, 2, 0},
		{"12345", "%2d%*2d%d", []string{"12", "5"}, 3, 0}, {"-5", "%1d", nil, 0, 0}, {"-", "%d", nil, 0, 0}, {"-56", "%2d%d", []string{"-5", "6"}, 2, 0}, {"abc", "%c%*c%n", []string{"97", "2"}, 3, 0}, {" a", "%c", []string{"32"}, 1, 0}, {"a-]b", "%[]a-]", []string{"a-]"}, 1, 0}, {"xyz1", "%[^0-9]%d", []string{"xyz", "1"}, 2, 0}, {"abc", "%2[a-c]%s", []string{"ab", "c"}, 2, 0}, {"m", "%[z-a]", []string{"m"}, 1, 0},
		{"5 % x", "%d%% %s", []string{"5", "x"}, 2, 0}, {"5%%", "%d %%%%%n", []string{"5", "3"}, 2, 0}, {"a  b", "a b", nil, 0, 0}, {"ab", "a b%n", []string{"2"}, 1, 0}, {"", "%n%d", []string{"0"}, 1, 0}, {"ab", "ac%n", nil, 0, 0}, {"", "", nil, 0, 0}, {"abc def", "%2s%s %s", []string{"ab", "c", "def"}, 3, 0},
		{"1", "%d%q", nil, 0, api.ErrSyntax}, {"1 " + strings.Repeat("9", 601), "%d %d", nil, 0, api.ErrLimit}, {strings.Repeat("0", 700) + "1", "%d", []string{"1"}, 1, 0}, {strings.Repeat("9", 601), "%*d", nil, 0, api.ErrLimit},
	} {
		l, done, e := Scan(c.s, c.spec)
		if !slices.Equal(l, c.want) || done != c.done || e != c.e {
			t.Errorf("Scan(%.20q, %q) = %q, %d, %d", c.s, c.spec, l, done, e)
		}
	}
	if n, e := Reads("%d%*d%%%n %[a]"); n != 3 || e != api.OK {
		t.Errorf("Reads = %d, %d", n, e)
	}
	if n, e := Reads("%d%"); n != 0 || e != api.ErrSyntax {
		t.Errorf("Reads of a wrong one = %d, %d", n, e)
	}
}

func TestThereAndBack(t *testing.T) {
	for _, n := range []string{"0", "-1", "255", "-123456789012345678901234567890", strings.Repeat("9", 600)} {
		for _, letter := range []string{"d", "x", "o", "b"} {
			for _, flags := range []string{"", "+", "0", "20", "-20", "020", "+.30", " "} {
				s, _, e := Format("%"+flags+letter, []string{n})
				l, done, e2 := Scan(s, "%"+letter)
				if e != api.OK || e2 != api.OK || done != 1 || l[0] != n {
					t.Errorf("%%%s%s of %.20s: %.30q, %.30q, %d", flags, letter, n, s, l, e2)
				}
			}
		}
	}
	for _, s := range []string{"a b", "{", "", "\n"} {
		q, _, _ := Format("%q", []string{s})
		if l, _, _ := list.Split(q); len(l) != 1 || l[0] != s {
			t.Errorf("%%q of %q", s)
		}
	}
}

func TestOthers(t *testing.T) {
	type told struct {
		s string
		e api.Errno
	}
	one := func(s string, e api.Errno) told { return told{s, e} }
	for i, c := range []struct{ got, want told }{
		{one(Pad("ab", 4, true, '.')), told{"..ab", 0}}, {one(Pad("ab", 4, false, 0)), told{"ab\x00\x00", 0}}, {one(Pad("abc", 2, true, '.')), told{"abc", 0}}, {one(Pad("", 1000, true, 'x')), told{"", api.ErrRange}}, {one(Pad("", -1, true, 'x')), told{"", api.ErrRange}},
		{one(Number("255", 16, 4, true, true)), told{"+0x00ff", 0}}, {one(Number("-5", 2, 0, true, true)), told{"-0b101", 0}}, {one(Number("8", 8, 0, false, true)), told{"0o10", 0}}, {one(Number("7", 10, 3, false, true)), told{"007", 0}}, {one(Number("x", 3, 0, false, false)), told{"", api.ErrRange}}, {one(Number("x", 10, 1000, false, false)), told{"", api.ErrRange}}, {one(Number("x", 10, 0, false, false)), told{"", api.ErrSyntax}}, {one(Number(long, 10, 0, false, false)), told{"", api.ErrLimit}},
		{one(Group("1234567", ",", 3)), told{"1,234,567", 0}}, {one(Group("-0x400", "..", 2)), told{"-10..24", 0}}, {one(Group("12", ",", 3)), told{"12", 0}}, {one(Group("x", "", 0)), told{"", api.ErrInvalid}}, {one(Group("x", "a-", 1)), told{"", api.ErrInvalid}}, {one(Group("x", "1", 1)), told{"", api.ErrInvalid}}, {one(Group("x", ",", 101)), told{"", api.ErrRange}}, {one(Group("x", ",", 0)), told{"", api.ErrRange}}, {one(Group("x", ",", 1)), told{"", api.ErrSyntax}}, {one(Group(long, ",", 1)), told{"", api.ErrLimit}},
		{one(Ungroup("1,234,567", ",", 3)), told{"1234567", 0}}, {one(Ungroup("-12", ",", 3)), told{"-12", 0}}, {one(Ungroup("12,34", ",", 3)), told{"", api.ErrSyntax}}, {one(Ungroup("1234", ",", 3)), told{"", api.ErrSyntax}}, {one(Ungroup("01", ",", 3)), told{"", api.ErrSyntax}}, {one(Ungroup("+1", ",", 3)), told{"", api.ErrSyntax}}, {one(Ungroup(long, ",", 100)), told{"", api.ErrSyntax}}, {one(Ungroup("", ",", 3)), told{"", api.ErrSyntax}}, {one(Ungroup("x", "-", 3)), told{"", api.ErrInvalid}},
		{one(Columns([][]string{{"a", "bb", "c"}, {"ddd", "e"}, {}, {"ffffff"}}, 1)), told{"a      bb c\nddd    e\n\nffffff\n", 0}}, {one(Columns(nil, 100)), told{"", api.ErrRange}}, {one(Columns(nil, 0)), told{"", 0}}, {one(Columns([][]string{{strings.Repeat("x", 65536)}}, 0)), told{"", api.ErrLimit}},
	} {
		if c.got != c.want {
			t.Errorf("case %d: %q, %d, not %q, %d", i, c.got.s, c.got.e, c.want.s, c.want.e)
		}
	}
	for n := 1; n < 4000; n++ {
		s, e := Roman(n)
		back, e2 := Unroman(s)
		if e != api.OK || e2 != api.OK || back != n || strings.Contains(s, "IIII") || strings.Contains(s, "XXXX") || strings.Contains(s, "CCCC") || strings.Contains(s, "MMMM") {
			t.Errorf("Roman(%d) = %q", n, s)
		}
	}
	if s, _ := Roman(1994); s != "MCMXCIV" {
		t.Errorf("Roman(1994) = %q", s)
	}
	for _, n := range []int{0, 4000, -1} {
		if _, e := Roman(n); e != api.ErrRange {
			t.Errorf("Roman(%d)", n)
		}
	}
	for _, s := range []string{"", "IIII", "VX", "i", "IC", "MMMM", "IVI"} {
		if n, e := Unroman(s); n != 0 || e != api.ErrSyntax {
			t.Errorf("Unroman(%q) = %d", s, n)
		}
	}
	for _, c := range []struct {
		s     string
		width int
		want  []string
	}{{" the quick\nbrown  fox ", 9, []string{"the quick", "brown fox"}}, {"a bbbbb c", 3, []string{"a", "bbbbb", "c"}}, {"\t ", 5, nil}, {"a b c", 3, []string{"a b", "c"}}} {
		if l, e := Wrap(c.s, c.width); !slices.Equal(l, c.want) || e != api.OK {
			t.Errorf("Wrap(%q, %d) = %q", c.s, c.width, l)
		}
	}
	for _, w := range []int{0, 1000} {
		if _, e := Wrap("a", w); e != api.ErrRange {
			t.Errorf("Wrap by %d", w)
		}
	}
}
