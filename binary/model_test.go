package binary

import (
	"encoding/base64"
	"encoding/hex"
	"hash/crc32"
	"hash/fnv"
	"math/big"
	"math/rand"
	"net/url"
	"regexp"
	"slices"
	"strconv"
	"strings"
	"testing"
	"unicode/utf8"

	"threadbare/api"
)

// Codes are held against the kit's own, layouts against fields that are done one by one.

func some(r *rand.Rand, letters string, most int) string {
	b := make([]byte, r.Intn(most+1))
	for i := range b {
		b[i] = letters[r.Intn(len(letters))]
	}
	return string(b)
}

func TestCodesAsTheKit(t *testing.T) {
	r := rand.New(rand.NewSource(1))
	all := ""
	for c := range 256 {
		all += string([]byte{byte(c)})
	}
	form64 := regexp.MustCompile(`^([A-Za-z0-9+/]{4})*([A-Za-z0-9+/]{2}==|[A-Za-z0-9+/]{3}=)?$`)
	for i := range 6000 {
		s := some(r, all, 9)
		if i < 256 {
			s = all[i:]
		}
		if Hex(s) != hex.EncodeToString([]byte(s)) || Base64(s) != base64.StdEncoding.EncodeToString([]byte(s)) || Crc32(s) != int(crc32.ChecksumIEEE([]byte(s))) {
			t.Fatalf("the codes of %q: %q, %q, %d", s, Hex(s), Base64(s), Crc32(s))
		}
		sum := fnv.New64a()
		sum.Write([]byte(s))
		if Sum64(s) != sum.Sum64() {
			t.Fatalf("Sum64(%q)", s)
		}
		percent := strings.ReplaceAll(url.QueryEscape(s), "+", "%20")
		if back, e := Unpercent(percent); Percent(s) != percent || back != s || e != api.OK {
			t.Fatalf("Percent(%q) = %q, not %q; back %q, %d", s, Percent(s), percent, back, e)
		}
		h := some(r, "01aAfFgG", 5)
		want, err := hex.DecodeString(h)
		if got, e := Unhex(h); (err == nil) != (e == api.OK) || err == nil && got != string(want) || err != nil && got != "" {
			t.Fatalf("Unhex(%q) = %q, %d", h, got, e)
		}
		p := some(r, "a%20fFgé", 5)
		bytes, err := url.PathUnescape(p)
		if got, e := Unpercent(p); (err == nil) != (e == api.OK) || err == nil && got != bytes {
			t.Fatalf("Unpercent(%q) = %q, %d", p, got, e)
		}
		b := some(r, "AQgw+/z9==", 8)
		want, err = base64.StdEncoding.Strict().DecodeString(b)
		right := err == nil && form64.MatchString(b)
		if got, e := Unbase64(b); right != (e == api.OK) || right && got != string(want) || !right && (got != "" || e != api.ErrSyntax) {
			t.Fatalf("Unbase64(%q) = %q, %d, not %q, %t", b, got, e, want, right)
		}
		u := some(r, "a\xc3\xa9\xe2\x82\xac\xed\xa0\x80\xf0\x9f\x98\x80\xc0\xf4\x90", 5)
		points, e := Points(u)
		if utf8.ValidString(u) != (e == api.OK) {
			t.Fatalf("Points(%q) = %v, %d", u, points, e)
		}
		if e == api.OK {
			wide, latin, low := false, "", true
			for k, c := range []rune(u) {
				if points[k] != int(c) {
					t.Fatalf("Points(%q) = %v", u, points)
				}
				wide = wide || c > 127
				low = low && c < 256
				latin += string([]byte{byte(c)})
			}
			back, _ := OfPoints(points)
			got, e := Latin(u)
			if back != u || Wide(u) != wide || low && (got != latin || e != api.OK) || !low && (got != "" || e != api.ErrRange) {
				t.Fatalf("%q: %v, back %q, wide %t, %q, %d", u, points, back, Wide(u), got, e)
			}
		} else if _, e := Latin(u); e != api.ErrSyntax || Wide(u) {
			t.Fatalf("Latin(%q): %d", u, e)
		}
		bytewise, e := Unlatin(s)
		if back, e2 := Latin(bytewise); back != s || e != api.OK || e2 != api.OK || utf8.RuneCountInString(bytewise) != len(s) {
			t.Fatalf("Unlatin(%q) = %q", s, bytewise)
		}
	}
	for _, c := range []struct {
		point int
		want  api.Errno
	}{{0, 0}, {0xD7FF, 0}, {0xD800, 7}, {0xDFFF, 7}, {0xE000, 0}, {0x10FFFF, 0}, {0x110000, 7}, {-1, 7}, {1 << 40, 7}} {
		if _, e := OfPoints([]int{'a', c.point}); e != c.want {
			t.Errorf("OfPoints(%d): %d", c.point, e)
		}
	}
	half := strings.Repeat("\xff", 32768)
	if s, e := Unlatin(half); len(s) != 65536 || e != api.OK {
		t.Errorf("Unlatin to the greatest length: %d", e)
	}
	if s, e := Unlatin(half + "a"); s != "" || e != api.ErrLimit {
		t.Errorf("Unlatin to one more: %d", e)
	}
}

// one is a field with its argument, what it packs, and what that tells.
type one struct {
	text, arg, bytes, told string
}

var sizes = map[byte]int{'c': 1, 's': 2, 'S': 2, 'i': 4, 'I': 4, 'w': 8, 'W': 8}

// number is the bytes of a number, and what they tell with a sign and without.
func number(n string, mark byte) (bytes, signed, unsigned string) {
	size := sizes[mark]
	all := new(big.Int).Lsh(big.NewInt(1), uint(8*size))
	v, _ := new(big.Int).SetString(n, 0)
	v.Mod(v, all)
	unsigned = v.String()
	low := new(big.Int).Set(v)
	for range size {
		b := string([]byte{byte(low.Uint64())})
		if mark >= 'a' {
			bytes += b
		} else {
			bytes = b + bytes
		}
		low.Rsh(low, 8)
	}
	if v.Bit(8*size-1) == 1 {
		v.Sub(v, all)
	}
	return bytes, v.String(), unsigned
}

// someField makes a random field.
func someField(r *rand.Rand) one {
	mark := "aAhHbBcsSiIwWx"[r.Intn(14)]
	count, n := "", 1
	if k := r.Intn(3); k > 0 {
		n = r.Intn(6)
		count = strconv.Itoa(n)
	}
	f := one{text: string(mark) + count}
	switch mark {
	case 'x':
		f.bytes = strings.Repeat("\x00", n)
	case 'a', 'A':
		fill := map[byte]string{'a': "\x00", 'A': " "}[mark]
		f.arg = some(r, "ab \x00", 7)
		f.bytes = (f.arg + strings.Repeat(fill, n))[:n]
		if f.told = f.bytes; mark == 'A' {
			f.told = strings.TrimRight(f.bytes, " \x00")
		}
	case 'h', 'H', 'b', 'B':
		digits, each := "0123456789abcdefABCDEF", 2
		if mark == 'b' || mark == 'B' {
			digits, each = "01", 8
		}
		f.arg = some(r, digits, 9)
		all := (strings.ToLower(f.arg) + strings.Repeat("0", n+each))[:(n+each-1)/each*each]
		if len(f.arg) > n {
			all = (strings.ToLower(f.arg[:n]) + strings.Repeat("0", each))[:(n+each-1)/each*each]
		}
		for i := 0; i < len(all); i += each {
			part := []byte(all[i : i+each])
			if mark == 'h' || mark == 'b' {
				slices.Reverse(part)
			}
			v, _ := strconv.ParseUint(string(part), map[int]int{2: 16, 8: 2}[each], 8)
			f.bytes += string([]byte{byte(v)})
		}
		f.told = all[:n]
	default:
		var args, signed, unsigned []string
		more := 0
		if count != "" {
			more = r.Intn(2)
		}
		u := r.Intn(2) == 0
		for i := range n + more {
			v := []string{"0", "1", "-1", "127", "128", "255", "256", "-129", "0x7fff", "32768", "-2147483649", "9223372036854775808", "123456789012345678901234567890"}[r.Intn(13)]
			args = append(args, v)
			b, s, w := number(v, mark)
			if i < n {
				f.bytes, signed, unsigned = f.bytes+b, append(signed, s), append(unsigned, w)
			}
		}
		f.arg, f.told = strings.Join(args, " \t"), strings.Join(signed, " ")
		if u {
			f.text += "|u"
			f.told = strings.Join(unsigned, " ")
		}
	}
	return f
}

// layouts are those to pack and to unpack: a u stands only in the second one.
func layouts(l []one) (pack, unpack string) {
	for _, f := range l {
		mark, u, _ := strings.Cut(f.text, "|")
		pack += mark + " "
		unpack += mark[:1] + u + mark[1:]
	}
	return pack, unpack
}

func TestLayoutsFieldByField(t *testing.T) {
	r := rand.New(rand.NewSource(2))
	for range 8000 {
		var l []one
		var args, told []string
		bytes := ""
		for range r.Intn(5) {
			f := someField(r)
			l = append(l, f)
			bytes += f.bytes
			if f.text[0] != 'x' {
				args, told = append(args, f.arg), append(told, f.told)
			}
		}
		pack, unpack := layouts(l)
		if got, e := Pack(pack, args); got != bytes || e != api.OK {
			t.Fatalf("Pack(%q, %q) = %q, %d, not %q", pack, args, got, e, bytes)
		}
		for _, layout := range []string{pack, unpack} {
			n, e := Length(layout)
			k, e2 := Fields(layout)
			if n != len(bytes) || k != len(args) || e != api.OK || e2 != api.OK {
				t.Fatalf("%q: %d bytes, %d fields", layout, n, k)
			}
		}
		got, done, e := Unpack(unpack, bytes)
		if !slices.Equal(got, told) || !done || e != api.OK {
			t.Fatalf("Unpack(%q, %q) = %q, %t, %d, not %q", unpack, bytes, got, done, e, told)
		}
		if bytes != "" {
			// without the last byte all fields are told up to the one that lacks it
			at, many := 0, 0
			for _, f := range l {
				if at += len(f.bytes); at == len(bytes) && f.bytes != "" {
					break
				}
				if f.text[0] != 'x' {
					many++
				}
			}
			got, done, e := Unpack(unpack, bytes[:len(bytes)-1])
			if !slices.Equal(got, told[:many]) || done || e != api.OK {
				t.Fatalf("Unpack(%q) of one less: %q, %t, not %q", unpack, got, done, told[:many])
			}
			if len(args) > 0 {
				if got, e := Pack(pack, args[:len(args)-1]); got != "" || e != api.ErrNone {
					t.Fatalf("Pack(%q) of one less: %d", pack, e)
				}
			}
		}
	}
}

func TestLayoutForms(t *testing.T) {
	form := regexp.MustCompile(`^ *([aAhHbBx](\*|0|[1-9][0-9]{0,3})?|[csSiIwW]u?(\*|0|[1-9][0-9]{0,3})?|@(\*|0|[1-9][0-9]{0,3}))`)
	right := func(s string) bool {
		for strings.Trim(s, " ") != "" {
			m := form.FindString(s)
			rest := s[len(m):]
			if m == "" || rest != "" && rest[0] >= '0' && rest[0] <= '9' && strings.TrimLeft(m, " ") != "" && !strings.HasSuffix(m, "*") {
				return false
			}
			s = rest
		}
		return true
	}
	r := rand.New(rand.NewSource(3))
	for range 15000 {
		s := some(r, "aAhcsuux@@**0129 \t", 6)
		ok := right(s)
		if _, e := Fields(s); (e == api.OK) != ok || e != api.OK && e != api.ErrSyntax {
			t.Fatalf("Fields(%q): %d", s, e)
		}
		if _, e := Length(s); (e != api.ErrSyntax) != ok {
			t.Fatalf("Length(%q): %d", s, e)
		}
		if _, _, e := Unpack(s, "abc"); (e == api.OK) != ok {
			t.Fatalf("Unpack(%q): %d", s, e)
		}
		if _, e := Pack(s, nil); (e != api.ErrSyntax) != (ok && !strings.Contains(s, "u")) {
			t.Fatalf("Pack(%q): %d", s, e)
		}
	}
}
