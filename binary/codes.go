package binary

import (
	"strings"
	"unicode/utf8"

	"threadbare/api"
)

// Hex returns two hexadecimal digits for each byte.
func Hex(s string) string {
	out := make([]byte, 0, 2*len(s))
	for i := range len(s) {
		out = append(out, "0123456789abcdef"[s[i]>>4], "0123456789abcdef"[s[i]&15])
	}
	return string(out)
}

// Unhex returns the bytes of hexadecimal digits.
func Unhex(s string) (string, api.Errno) {
	if len(s)%2 != 0 {
		return "", api.ErrSyntax
	}
	out := make([]byte, len(s)/2)
	for i := range out {
		high, low := worth(s[2*i]), worth(s[2*i+1])
		if high > 15 || low > 15 {
			return "", api.ErrSyntax
		}
		out[i] = byte(16*high + low)
	}
	return string(out), api.OK
}

const signs64 = "ABCDEFGHIJKLMNOPQRSTUVWXYZabcdefghijklmnopqrstuvwxyz0123456789+/"

// Base64 returns the base64 text.
func Base64(s string) string {
	var out strings.Builder
	for i := 0; i < len(s); i += 3 {
		part := s[i:min(i+3, len(s))]
		bits := 0
		for k := range 3 {
			bits <<= 8
			if k < len(part) {
				bits |= int(part[k])
			}
		}
		for k := range 4 {
			if k > len(part) {
				out.WriteByte('=')
			} else {
				out.WriteByte(signs64[bits>>(18-6*k)&63])
			}
		}
	}
	return out.String()
}

// Unbase64 returns the bytes of a base64 text.
func Unbase64(s string) (string, api.Errno) {
	if len(s)%4 != 0 {
		return "", api.ErrSyntax
	}
	var out []byte
	for i := 0; i < len(s); i += 4 {
		part := s[i : i+4]
		if i+4 == len(s) {
			part = strings.TrimSuffix(strings.TrimSuffix(part, "="), "=")
		}
		bits := 0
		for k := range 4 {
			bits <<= 6
			if k < len(part) {
				n := strings.IndexByte(signs64, part[k])
				if n < 0 {
					return "", api.ErrSyntax
				}
				bits |= n
			}
		}
		if len(part) < 2 || bits&(1<<(8*(4-len(part)))-1) != 0 {
			return "", api.ErrSyntax
		}
		for k := range len(part) - 1 {
			out = append(out, byte(bits>>(16-8*k)))
		}
	}
	return string(out), api.OK
}

func plain(c byte) bool {
	return c >= 'a' && c <= 'z' || c >= 'A' && c <= 'Z' || c >= '0' && c <= '9' || strings.IndexByte("-._~", c) >= 0
}

// Percent writes all but plain bytes with a percent sign.
func Percent(s string) string {
	var out strings.Builder
	for i := range len(s) {
		if plain(s[i]) {
			out.WriteByte(s[i])
			continue
		}
		out.WriteByte('%')
		out.WriteByte("0123456789ABCDEF"[s[i]>>4])
		out.WriteByte("0123456789ABCDEF"[s[i]&15])
	}
	return out.String()
}

// Unpercent returns the bytes of a text with percent signs.
func Unpercent(s string) (string, api.Errno) {
	var out strings.Builder
	for i := 0; i < len(s); i++ {
		c := s[i]
		if c == '%' {
			b, e := Unhex(s[min(i+1, len(s)):min(i+3, len(s))])
			if e != api.OK || b == "" {
				return "", api.ErrSyntax
			}
			c = b[0]
			i += 2
		}
		out.WriteByte(c)
	}
	return out.String(), api.OK
}

// Points returns the code points of a text in UTF-8.
func Points(s string) ([]int, api.Errno) {
	if !utf8.ValidString(s) {
		return nil, api.ErrSyntax
	}
	var out []int
	for _, r := range s {
		out = append(out, int(r))
	}
	return out, api.OK
}

// OfPoints writes code points in UTF-8.
func OfPoints(l []int) (string, api.Errno) {
	var out []byte
	for _, p := range l {
		if p < 0 || p > utf8.MaxRune || p >= 0xD800 && p <= 0xDFFF {
			return "", api.ErrRange
		}
		out = utf8.AppendRune(out, rune(p))
	}
	return string(out), api.OK
}

// Wide reports whether a text is in UTF-8 and has a code point above 127.
func Wide(s string) bool {
	return utf8.ValidString(s) && utf8.RuneCountInString(s) < len(s)
}

// Latin returns the bytes of a text whose code points are below 256.
func Latin(s string) (string, api.Errno) {
	l, e := Points(s)
	if e != api.OK {
		return "", e
	}
	out := make([]byte, len(l))
	for i, p := range l {
		if p > 255 {
			return "", api.ErrRange
		}
		out[i] = byte(p)
	}
	return string(out), api.OK
}

// Unlatin returns the text whose code points are the bytes.
func Unlatin(s string) (string, api.Errno) {
	var out []byte
	for i := range len(s) {
		if out = utf8.AppendRune(out, rune(s[i])); len(out) > api.MaxText {
			return "", api.ErrLimit
		}
	}
	return string(out), api.OK
}

// Crc32 returns the CRC-32.
func Crc32(s string) int {
	sum := ^uint32(0)
	for i := range len(s) {
		sum ^= uint32(s[i])
		for range 8 {
			sum = sum>>1 ^ 0xEDB88320&-(sum&1)
		}
	}
	return int(^sum)
}

// Sum64 returns the 64-bit hash.
func Sum64(s string) uint64 {
	sum := uint64(14695981039346656037)
	for i := range len(s) {
		sum = (sum ^ uint64(s[i])) * 1099511628211
	}
	return sum
}
