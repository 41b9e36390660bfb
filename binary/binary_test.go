package binary

import (
	"slices"
	"strings"
	"testing"

	"threadbare/api"
)

func TestPack(t *testing.T) {
	long := "1" + strings.Repeat("0", 600)
	for _, c := range []struct {
		layout string
		args   []string
		want   string
		e      api.Errno
	}{
		{"a3 s H4", []string{"ab", "258", "0a1b"}, "ab\x00\x02\x01\x0a\x1b", 0}, {" aA5a*A0 ", []string{"xy", "z", "long", "q", "more"}, "xz    long", 0}, {"h3H3hH", []string{"12f", "12f", "a", "a"}, "\x21\x0f\x12\xf0\x0a\xa0", 0}, {"h4H*", []string{"1", "abc"}, "\x01\x00\xab\xc0", 0}, {"b3B3b*B9", []string{"110", "110", "", "1"}, "\x03\xc0\x80\x00", 0},
		{"cc2c*", []string{"-1", "1 256 7", " 3\t4 "}, "\xff\x01\x00\x03\x04", 0}, {"sSiI", []string{"-2", "0x1234", "1", "1"}, "\xfe\xff\x12\x34\x01\x00\x00\x00\x00\x00\x00\x01", 0}, {"wW", []string{"18446744073709551617", "-1"}, "\x01\x00\x00\x00\x00\x00\x00\x00\xff\xff\xff\xff\xff\xff\xff\xff", 0}, {"c0", []string{""}, "", 0},
		{"a3@1a@5ax*@*a", []string{"abc", "X", "Y", "Z"}, "aXc\x00\x00Y\x00Z", 0}, {"a4@1x2", []string{"abcd"}, "a\x00\x00d", 0}, {"@3", nil, "\x00\x00\x00", 0}, {"", []string{"x"}, "", 0},
		{"q", nil, "", api.ErrSyntax}, {"cu", []string{"1"}, "", api.ErrSyntax}, {"cu", nil, "", api.ErrSyntax}, {"c iu2 @70000", []string{"x"}, "", api.ErrSyntax}, {"a su3", []string{"1", "1 2 3"}, "", api.ErrSyntax}, {"a05", []string{"1"}, "", api.ErrSyntax}, {"a10000", []string{"1"}, "", api.ErrSyntax}, {"@", nil, "", api.ErrSyntax}, {"5", nil, "", api.ErrSyntax}, {"a\t", nil, "", api.ErrSyntax}, {"aa", []string{"1"}, "", api.ErrNone}, {"c2", []string{"1"}, "", api.ErrKind}, {"c2", []string{"x"}, "", api.ErrKind}, {"c1", []string{"1 x"}, "", api.ErrKind}, {"c", []string{"1 2"}, "", api.ErrKind}, {"H1", []string{"1g"}, "", api.ErrKind}, {"b0", []string{"2"}, "", api.ErrKind},
		{"c", []string{long}, "", api.ErrLimit}, {"c1", []string{"1 " + long + " x"}, "", api.ErrLimit}, {"a*a", []string{strings.Repeat("x", 65536), "y"}, "", api.ErrLimit}, {"a*a", []string{strings.Repeat("x", 65537)}, "", api.ErrLimit}, {"a*", []string{strings.Repeat("x", 65536)}, strings.Repeat("x", 65536), 0},
	} {
		s, e := Pack(c.layout, c.args)
		if s != c.want || e != c.e {
			t.Errorf("Pack(%q, %.30q) = %.30q, %d", c.layout, c.args, s, e)
		}
		n, e := Length(c.layout)
		if e == api.OK && c.e == api.OK && n != len(s) {
			t.Errorf("Length(%q) = %d", c.layout, n)
		}
	}
	for layout, want := range map[string]struct {
		fields, length int
		e, e2          api.Errno
	}{"a3 s H4x@9": {3, 9, 0, 0}, "c*": {1, 0, 0, api.ErrRange}, "x*@*": {0, 1, 0, 0}, "a9999@1": {1, 9999, 0, 0}, "y": {0, 0, 2, 2}, "h3b9": {2, 4, 0, 0}, "Iu": {1, 4, 0, 0}, "cu": {1, 1, 0, 0}, "su3 a2 x": {2, 9, 0, 0}, "Wu*": {1, 0, 0, api.ErrRange}, "wu0": {1, 0, 0, 0}, "au": {0, 0, 2, 2}, "cuu": {0, 0, 2, 2}, "c2u": {0, 0, 2, 2}, "u": {0, 0, 2, 2}, "xu": {0, 0, 2, 2}} {
		f, e := Fields(layout)
		n, e2 := Length(layout)
		if f != want.fields || n != want.length || e != want.e || e2 != want.e2 {
			t.Errorf("%q: %d fields, %d, the length %d, %d", layout, f, e, n, e2)
		}
	}
	args := []string{"xx"}
	spare := append(make([]string, 0, 9), args...)
	Pack("a1@0a1", append(spare, "y"))
}

func TestUnpack(t *testing.T) {
	for _, c := range []struct {
		layout, s string
		want      []string
		done      bool
		e         api.Errno
	}{
		{"c2 cu", "\xff\x01\xff", []string{"-1 1", "255"}, true, 0}, {"a3A4a*", "a\x00 b \x00 rest", []string{"a\x00 ", "b", "rest"}, true, 0}, {"h3H3hH*", "\x21\x0f\x12\xf0\x0a\xa0", []string{"12f", "12f", "a", "a0"}, true, 0}, {"b3B*", "\x03\xc0", []string{"110", "11000000"}, true, 0},
		{"sSu iu", "\xfe\xff\x12\x34\xff\xff\xff\xff", []string{"-2", "4660", "4294967295"}, true, 0}, {"wuW", "\xff\xff\xff\xff\xff\xff\xff\xff\x80\x00\x00\x00\x00\x00\x00\x00", []string{"18446744073709551615", "-9223372036854775808"}, true, 0}, {"s*a", "\x01\x00\x02\x00z", []string{"1 2", "z"}, true, 0}, {"s*", "z", []string{""}, true, 0}, {"su2", "\x01\x00\x02\x00", []string{"1 2"}, true, 0},
		{"a0c0h0", "", []string{"", "", ""}, true, 0}, {"x2a@0a", "abc", []string{"c", "a"}, true, 0}, {"x*a", "ab", []string{"b"}, true, 0}, {"@*a*", "ab", []string{""}, true, 0}, {"ax9a", "abc", []string{"a"}, false, 0}, {"a@4", "abc", []string{"a"}, false, 0}, {"a@3", "abc", []string{"a"}, true, 0}, {"c2c", "\x01", nil, false, 0}, {"au", "a", nil, false, api.ErrSyntax}, {"cu*", "\xff\x01", []string{"255 1"}, true, 0},
	} {
		l, done, e := Unpack(c.layout, c.s)
		if !slices.Equal(l, c.want) || done != c.done || e != c.e {
			t.Errorf("Unpack(%q, %q) = %q, %t, %d", c.layout, c.s, l, done, e)
		}
	}
}

func TestCodes(t *testing.T) {
	every := ""
	for c := range 256 {
		every += string([]byte{byte(c)})
	}
	for _, s := range []string{"", "a", "ab", "abc", every, every + "x"} {
		h, e := Unhex(Hex(s))
		b, e2 := Unbase64(Base64(s))
		p, e3 := Unpercent(Percent(s))
		u, e4 := Unlatin(s)
		l, e5 := Latin(u)
		if h != s || b != s || p != s || l != s || e+e2+e3+e4+e5 != 0 || len(Hex(s)) != 2*len(s) || len(Base64(s)) != (len(s)+2)/3*4 {
			t.Errorf("%.10q does not come back", s)
		}
	}
	if Base64("ab") != "YWI=" || Hex("\x0a\xff") != "0aff" || Percent("a b~%\xff") != "a%20b~%25%FF" {
		t.Error("codes")
	}
	for _, s := range []string{"a", "0g", "0a1"} {
		if _, e := Unhex(s); e != api.ErrSyntax {
			t.Errorf("Unhex(%q)", s)
		}
	}
	for _, s := range []string{"YWI", "YWJ=", "YW==YW==", "Y===", "====", "YW I", "YR==", "=WI="} {
		if r, e := Unbase64(s); e != api.ErrSyntax || r != "" {
			t.Errorf("Unbase64(%q) = %q", s, r)
		}
	}
	for _, s := range []string{"%", "a%2", "%2g", "%%20"} {
		if r, e := Unpercent(s); e != api.ErrSyntax || r != "" {
			t.Errorf("Unpercent(%q) = %q", s, r)
		}
	}
	if s, e := Unpercent("%2fa b"); s != "/a b" || e != api.OK {
		t.Errorf("Unpercent = %q", s)
	}
	l, e := Points("a\u00e4\u20ac\U0010ffff")
	if !slices.Equal(l, []int{97, 228, 8364, 0x10ffff}) || e != api.OK {
		t.Errorf("Points = %v", l)
	}
	if s, e := OfPoints(l); s != "a\u00e4\u20ac\U0010ffff" || e != api.OK {
		t.Errorf("OfPoints = %q", s)
	}
	for _, s := range []string{"\xff", "\xc0\x80", "\xed\xa0\x80", "\xf4\x90\x80\x80", "\xe2\x82"} {
		if _, e := Points(s); e != api.ErrSyntax || Wide(s) {
			t.Errorf("Points(%q): %d", s, e)
		}
		if _, e := Latin(s); e != api.ErrSyntax {
			t.Errorf("Latin(%q): %d", s, e)
		}
	}
	for _, p := range []int{-1, 0xd800, 0xdfff, 0x110000, 1 << 40} {
		if s, e := OfPoints([]int{65, p}); e != api.ErrRange || s != "" {
			t.Errorf("OfPoints(%d)", p)
		}
	}
	if !Wide("a\u00e4") || Wide("abc") || Wide("") {
		t.Error("Wide")
	}
	if _, e := Latin("\u0100"); e != api.ErrRange {
		t.Error("Latin of a great code point")
	}
	if _, e := Unlatin(strings.Repeat("\xff", 40000)); e != api.ErrLimit {
		t.Error("Unlatin of too much")
	}
	if Crc32("123456789") != 3421780262 || Crc32("") != 0 || Crc32("123456788") == Crc32("123456789") {
		t.Error("Crc32")
	}
	if Sum64("") != 14695981039346656037 || Sum64("a") != 0xaf63dc4c8601ec8c {
		t.Error("Sum64")
	}
}
