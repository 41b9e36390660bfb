package strs

import (
	"fmt"
	"strings"
	"testing"

	"threadbare/api"
)

func TestScripts(t *testing.T) {
	long := strings.Repeat("x", 40000)
	digits := "1" + strings.Repeat("0", 600)
	for i, c := range []struct{ script, want string }{
		{"string first b abab 2", "0 3"}, {"format %05d 42", "0 00042"}, {"string map {a 1 b 2} aab", "0 112"}, {"string length abc", "0 3"}, {"string reverse abc", "0 cba"}, {"string tolower aB", "0 ab"}, {"string toupper aB", "0 AB"}, {"string totitle aB", "0 Ab"}, {"string index abc end", "0 c"}, {"string index abc 9", "0 "}, {"string index abc -1", "0 "}, {"string index abc x", "1 index: x"}, {"string range abcd 1 end-1", "0 bc"}, {"string range abcd x y", "1 index: x"}, {"string range abcd 0 y", "1 index: y"}, {"string replace abcd 1 2", "0 ad"}, {"string replace abcd 1 2 xyz", "0 axyzd"}, {"string replace abcd 1 q xyz", "1 index: q"}, {"string replace " + long + " 1 0 x", "0 " + long}, {"string replace " + long + " 0 0 " + long, "1 long"},
		{"string insert abc 1 X", "0 aXbc"}, {"string insert abc end X", "0 abcX"}, {"string insert abc end-1 X", "0 abXc"}, {"string insert abc -5 X", "0 Xabc"}, {"string insert abc 99 X", "0 abcX"}, {"string insert abc q X", "1 index: q"}, {"string insert " + long + " 0 " + long, "1 long"}, {"string first b abab", "0 1"}, {"string first b abab q", "1 index: q"}, {"string last b abab", "0 3"}, {"string last b abab end-1", "0 1"}, {"string last b {}", "0 -1"}, {"string count a banana", "0 3"}, {"string repeat ab 3", "0 ababab"}, {"string repeat ab -1", "0 "}, {"string repeat ab x", "1 number: x"}, {"string repeat ab 99999999999999999999", "1 long"}, {"string repeat {} 99999999999999999999", "0 "}, {"string repeat a " + digits, "1 long"},
		{"string trim { a }", "0 a"}, {"string trim xax x", "0 a"}, {"string trimleft xax x", "0 ax"}, {"string trimright xax x", "0 xa"}, {"string compare a b", "0 -1"}, {"string compare -nocase A a", "0 0"}, {"string compare -length 1 ab ac", "0 0"}, {"string compare -length -1 ab ac", "0 -1"}, {"string equal -nocase -length 2 ABc abd", "0 1"}, {"string equal -nocase a", "0 0"}, {"string equal -nocase -nocase", "0 1"}, {"string equal -length a b", "1 words: string"}, {"string equal -length x a b", "1 number: x"}, {"string equal -q a b", "1 option: -q"}, {"string equal a b c", "1 words: string"}, {"string equal a", "1 words: string"}, {"string match a* abc", "0 1"}, {"string match -nocase A* abc", "0 1"}, {"string match A* abc", "0 0"}, {"string match -x A* abc", "1 option: -x"},
		{"string map -nocase {A x} aA", "0 xx"}, {"string map {a} x", "1 pairs: a"}, {"string map \\{ x", "1 list: {"}, {"string map {a bb} [string repeat a 40000]", "1 long"}, {"string is alpha aB", "0 1"}, {"string is integer { 0x10 }", "0 1"}, {"string is integer x", "0 0"}, {"string is integer " + digits, "0 0"}, {"string is boolean yes", "0 1"}, {"string is boolean x", "0 0"}, {"string is list {a b}", "0 1"}, {"string is list \\{", "0 0"}, {"string is dict {a b c}", "0 0"}, {"string is dict {a b}", "0 1"}, {"string is q x", "1 option: q"}, {"string is digit {}", "0 1"}, {"string quote {a b}", "0 {a b}"}, {"string cat", "0 "}, {"string cat a {} b", "0 ab"}, {"string cat " + long + " " + long, "1 long"}, {"string", "1 words: string"}, {"string q", "1 option: q"}, {"string length", "1 words: string"}, {"string repeat a", "1 words: string"}, {"string index x y z", "1 words: string"},
		{"format", "1 words: format"}, {"format %d", "1 format: %d"}, {"format %d x", "1 format: %d"}, {"format %z", "1 format: %z"}, {"format %c 300", "1 format: %c"}, {"format %d " + digits, "1 long"}, {"format %s%s " + long + " " + long, "1 long"}, {"scan {10, ff} {%d, %x}", "0 10 255"}, {"scan {10 x} {%d %d} a b; set a", "0 10"}, {"scan {10 x} {%d %d} a b", "0 1"}, {"scan 1 %d a b", "1 words: scan"}, {"scan 1 {%d %d} a", "1 words: scan"}, {"scan 1 %q a b", "1 format: %q"}, {"scan 1 %d q::a", "1 namespace: ::q"}, {"scan " + digits + " %d", "1 long"}, {"scan x", "1 words: scan"}, {"scan x %d", "0 "},
		{"binary encode hex [binary format {a2 s} ab 258]", "0 61620201"}, {"binary scan abc a2c", "0 ab 99"}, {"binary format c x", "1 format: c"}, {"binary format q", "1 format: q"}, {"binary scan a q", "1 format: q"}, {"binary encode base64 ab", "0 YWI="}, {"binary decode base64 YWI=", "0 ab"}, {"binary decode hex 6", "1 binary: 6"}, {"binary decode percent %61", "0 a"}, {"binary encode percent {a b}", "0 a%20b"}, {"binary encode latin \\xc3\\xa4", "0 \xe4"}, {"binary decode latin \\xe4", "0 \xc3\xa4"}, {"binary encode latin \\xe4", "1 binary: \xe4"}, {"binary encode q x", "1 option: q"}, {"binary q", "1 option: q"}, {"binary", "1 words: binary"}, {"binary scan a", "1 words: binary"}, {"binary decode latin [string repeat \\xff 40000]", "1 long"}, {"binary encode hex " + long, "1 long"},
		{"ascii aB", "0 97 66"}, {"ascii [string repeat x 10001]", "1 long"}, {"char 97 0x42", "0 aB"}, {"char", "0 "}, {"char 256", "1 range: 256"}, {"char -1", "1 range: -1"}, {"char x", "1 number: x"}, {"points a\\xc3\\xa4", "0 97 228"}, {"points \\xff", "1 binary: \xff"}, {"ofpoints 97 228", "0 a\xc3\xa4"}, {"ofpoints 97 55296", "1 binary: 97 55296"}, {"ofpoints x", "1 number: x"}, {"crc 123456789", "0 3421780262"}, {"sum {}", "0 14695981039346656037"}, {"crc", "1 words: crc"},
	} {
		o := New().Eval(c.script, 1000)
		if got := fmt.Sprintf("%d %s", o.Code, o.Text); got != c.want {
			t.Errorf("case %d, %.60q: %.60q, not %.60q", i, c.script, got, c.want)
		}
	}
}

func TestFunctions(t *testing.T) {
	if got := strings.Join(Commands(), " "); got != "ascii binary char crc format ofpoints points scan string sum" {
		t.Errorf("Commands = %s", got)
	}
	if Compare("ab", "AC", true, 1) != 0 || Compare("ab", "AC", true, -1) != -1 || Compare("a", "A", false, 5) != 1 || Compare("x", "y", false, 0) != 0 {
		t.Error("Compare")
	}
	for _, c := range []struct {
		s, place, want string
		e              api.Errno
	}{{"abc", "end", "abcX", 0}, {"", "end", "X", 0}, {"abc", "0", "Xabc", 0}, {"abc", "q", "", 2}, {strings.Repeat("a", 65536), "0", "", 4}, {strings.Repeat("a", 65536), "q", "", 2}} {
		if s, e := Insert(c.s, c.place, "X"); s != c.want || e != c.e {
			t.Errorf("Insert(%.9q, %q) = %.9q, %d", c.s, c.place, s, e)
		}
	}
}
