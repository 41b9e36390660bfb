package spell

import (
	"regexp"
	"slices"
	"strconv"
	"strings"
	"testing"

	"threadbare/api"
)

func TestAllLetters(t *testing.T) {
	for c := range 256 {
		s := string([]byte{byte(c)})
		writes := strings.Contains("dxXobcsq%", s) && c < 128
		reads := strings.Contains("dxobscn%", s) && c < 128
		if _, e := Check("%"+s, false); (e == api.OK) != writes {
			t.Errorf("Check of %q to write: %d", s, e)
		}
		if _, e := Check("%"+s, true); (e == api.OK) != reads {
			t.Errorf("Check of %q to read: %d", s, e)
		}
		for letter, digits := range map[string]string{"d": "0123456789", "x": "0123456789abcdefABCDEF", "o": "01234567", "b": "01"} {
			_, done, e := Scan("1"+s, "%"+letter+"%n")
			l, _, _ := Scan("1"+s, "%"+letter+"%n")
			want := "1"
			if strings.Contains(digits, s) && c < 128 {
				want = "2"
			}
			if done != 2 || e != api.OK || l[1] != want {
				t.Errorf("Scan of %q by %%%s: %q, %d", "1"+s, letter, l, e)
			}
		}
		white := strings.Contains("\t\n\v\f\r ", s) && c < 128
		if l, _, _ := Scan("a"+s+"b", "%s%n"); (l[0] == "a") != white {
			t.Errorf("Scan of %q by %%s: %q", "a"+s+"b", l)
		}
		if _, done, _ := Scan(s+"1", "%d"); (done == 1) != (white || strings.Contains("0123456789+-", s) && c < 128) {
			t.Errorf("Scan of %q by %%d: %d", s+"1", done)
		}
		if l, _, _ := Scan(s, "%c"); len(l) != 1 || l[0] != strconv.Itoa(c) {
			t.Errorf("Scan of %q by %%c: %q", s, l)
		}
		in := c >= 'b' && c <= 'd' || c == 'x' || c == '-' || c == ']' || c == 'f'
		if _, done, _ := Scan(s, "%[]d-bxf-]"); (done == 1) != in {
			t.Errorf("Scan of %q by a set: %d", s, done)
		}
		if _, done, _ := Scan(s, "%[^]d-bxf-]"); (done == 1) == in {
			t.Errorf("Scan of %q by the other set: %d", s, done)
		}
	}
}

func TestScanInParts(t *testing.T) {
	for _, c := range []struct {
		s, spec string
		want    string
		done    int
	}{
		{"a \t b", "a b%n", "5", 1}, {"ab", "a b%n", "2", 1}, {"a b", "ab%n", "", 0}, {" a", "a%n", "", 0}, {"5 %6", "%d%%%d", "5 6", 2}, {"5 %6", "%d %% %d", "5 6", 2}, {"%", "%%%n", "1", 1}, {"", "%%%n", "", 0}, {"x", "%%%n", "", 0},
		{"+12", "%3d%n", "12 3", 2}, {"+12", "%2d%n", "1 2", 2}, {"-12", "%1d", "", 0}, {"  -12", "%2d%s", "-1 2", 2}, {"++1", "%d", "", 0}, {"- 1", "%d", "", 0}, {"123456", "%2d%3d%d", "12 345 6", 3}, {"abcdef", "%2s%*3s%s", "ab f", 3}, {"abc", "%999s", "abc", 1}, {"aabb", "%3[a]%s", "aa bb", 2}, {"aabb", "%1[a]%s", "a abb", 2}, {"b", "%[a]%n", "", 0}, {"", "%s", "", 0}, {" ", "%s", "", 0}, {"", "%c", "", 0}, {"", "%[a]", "", 0}, {"", "%d", "", 0}, {"ab", "%*c%c", "98", 2}, {"abc", "%*n%n%c%n", "0 97 1", 4}, {"1 2", "%d%d%d", "1 2", 2}, {"0x1f", "%x%s", "0 x1f", 2}, {"-ff", "%x", "-255", 1}, {"-101", "%b", "-5", 1}, {"+17", "%o", "15", 1}, {"-0", "%d", "0", 1},
	} {
		l, done, e := Scan(c.s, c.spec)
		if strings.Join(l, " ") != c.want || done != c.done || e != api.OK {
			t.Errorf("Scan(%q, %q) = %q, %d, %d, not %q, %d", c.s, c.spec, l, done, e, c.want, c.done)
		}
	}
	for spec, want := range map[string]int{"%d%*d%n%%%c%[a] %s": 5, "": 0, "abc": 0} {
		if n, e := Reads(spec); n != want || e != api.OK {
			t.Errorf("Reads(%q) = %d, %d", spec, n, e)
		}
	}
}

func TestBoundsOfStars(t *testing.T) {
	for _, c := range []struct {
		spec string
		args []string
		n    int
		e    api.Errno
	}{
		{"%*d", []string{"999", "1"}, 999, 0}, {"%*d", []string{"-999", "1"}, 999, 0}, {"%*d", []string{"1000", "1"}, 0, 7}, {"%*d", []string{"-1000", "1"}, 0, 7}, {"%.*d", []string{"999", "1"}, 999, 0}, {"%.*d", []string{"-999", "1"}, 1, 0}, {"%.*d", []string{"1000", "1"}, 0, 7}, {"%.*d", []string{"-1000", "1"}, 0, 7}, {"%*d", []string{"0", "1"}, 1, 0}, {"%.*s", []string{"0", "abc"}, 0, 0}, {"%999d", []string{"1"}, 999, 0}, {"%.999d", []string{"1"}, 999, 0}, {"%c", []string{"0"}, 1, 0}, {"%c", []string{"255"}, 1, 0}, {"%c", []string{"-1"}, 0, 7}, {"%c", []string{"256"}, 0, 7},
		{"%*d", nil, 0, 8}, {"%*d", []string{"1"}, 0, 8}, {"%*.*d", []string{"1", "1"}, 0, 8}, {"%*d", []string{"x"}, 0, 11}, {"%.*d", []string{"x", "y"}, 0, 11}, {"%*.*d", []string{"1001", "x", "y"}, 0, 7}, {"%*.*d", []string{"1", "1001", "y"}, 0, 7}, {"%d", []string{"x"}, 0, 11}, {"%d", []string{strings.Repeat("9", 600)}, 600, 0}, {"%d", []string{strings.Repeat("9", 601)}, 0, 4}, {"%x", []string{strings.Repeat("9", 601)}, 0, 4}, {"%b", []string{strings.Repeat("9", 600)}, 1994, 0}, {"%s", []string{strings.Repeat("x", 65536)}, 65536, 0}, {"%s%%", []string{strings.Repeat("x", 65536)}, 0, 4}, {"%s.", []string{strings.Repeat("x", 65536)}, 0, 4}, {"%s", []string{strings.Repeat("x", 65537)}, 0, 4},
	} {
		s, _, e := Format(c.spec, c.args)
		if len(s) != c.n || e != c.e {
			t.Errorf("Format(%q, %.30q) has %d bytes, %d, not %d, %d", c.spec, c.args, len(s), e, c.n, c.e)
		}
	}
}

func TestRomanForms(t *testing.T) {
	form := regexp.MustCompile(`^M{0,3}(CM|CD|D?C{0,3})(XC|XL|L?X{0,3})(IX|IV|V?I{0,3})$`)
	known := map[int]string{1: "I", 4: "IV", 9: "IX", 14: "XIV", 40: "XL", 90: "XC", 400: "CD", 444: "CDXLIV", 500: "D", 900: "CM", 999: "CMXCIX", 3888: "MMMDCCCLXXXVIII", 3999: "MMMCMXCIX"}
	for n := 1; n < 4000; n++ {
		s, e := Roman(n)
		if !form.MatchString(s) || e != api.OK || known[n] != "" && known[n] != s {
			t.Errorf("Roman(%d) = %q", n, s)
		}
	}
	for _, s := range []string{"", "IIII", "VV", "IL", "IC", "XM", "VX", "MMMM", "i", "IXI", "CDC", "MMMDCCCLXXXVIIII", "A", "I ", " I"} {
		if n, e := Unroman(s); n != 0 || e != api.ErrSyntax {
			t.Errorf("Unroman(%q) = %d, %d", s, n, e)
		}
	}
}

func TestMarks(t *testing.T) {
	for c := range 128 {
		mark := string([]byte{byte(c)})
		want := api.OK
		if c == '-' || c >= '0' && c <= '9' {
			want = api.ErrInvalid
		}
		s, e := Group("-1234", mark, 2)
		if e != want || e == api.OK && s != "-12"+mark+"34" {
			t.Errorf("Group by %q = %q, %d", mark, s, e)
		}
	}
	for _, s := range []string{"1,2345", "12345", "12,34,", ",123", "01,234", "0,123", "-0", "+1", "1,23", "1,,234", " 1", "--1", "", "-", strings.Repeat("1", 601)} {
		if n, e := Ungroup(s, ",", 3); n != "" || e != api.ErrSyntax {
			t.Errorf("Ungroup(%.20q) = %q, %d", s, n, e)
		}
	}
	if l, e := Wrap("a b", 999); !slices.Equal(l, []string{"a b"}) || e != api.OK {
		t.Errorf("Wrap by the greatest width: %q, %d", l, e)
	}
	if l, e := Wrap("a b", 1); !slices.Equal(l, []string{"a", "b"}) || e != api.OK {
		t.Errorf("Wrap by the least width: %q, %d", l, e)
	}
}
