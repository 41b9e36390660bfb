package spell

import (
	"fmt"
	"math/big"
	"math/rand"
	"regexp"
	"slices"
	"strconv"
	"strings"
	"testing"

	"threadbare/api"
	"threadbare/list"
)

// What is written and read is held against the table of the chapter, done with the kit's own numbers.

// written is one conversion, by its parts.
func written(flags string, width, precision int, letter byte, arg string) string {
	has := func(c string) bool { return strings.Contains(flags, c) }
	body, head := arg, ""
	number := strings.IndexByte("dxXob", letter) >= 0
	switch {
	case number:
		n, _ := new(big.Int).SetString(arg, 0)
		base := map[byte]int{'d': 10, 'x': 16, 'X': 16, 'o': 8, 'b': 2}[letter]
		body = new(big.Int).Abs(n).Text(base)
		if letter == 'X' {
			body = strings.ToUpper(body)
		}
		for len(body) < precision {
			body = "0" + body
		}
		switch {
		case n.Sign() < 0:
			head = "-"
		case has("+"):
			head = "+"
		case has(" "):
			head = " "
		}
		if has("#") && letter != 'd' {
			head += "0" + string(letter)
		}
	case letter == 'c':
		n, _ := strconv.Atoi(arg)
		body = string([]byte{byte(n)})
	default:
		if letter == 'q' {
			body = list.Quote(arg)
		}
		if precision >= 0 && precision < len(body) {
			body = body[:precision]
		}
	}
	fill := strings.Repeat(" ", max(width-len(head)-len(body), 0))
	switch {
	case has("-"):
		return head + body + fill
	case has("0") && number && precision < 0:
		return head + strings.ReplaceAll(fill, " ", "0") + body
	}
	return fill + head + body
}

func TestConversionsByTheTable(t *testing.T) {
	r := rand.New(rand.NewSource(1))
	for range 30000 {
		flags := ""
		for range r.Intn(4) {
			flags += string("-+0# "[r.Intn(5)])
		}
		width, precision, letter := -1, -1, "dxXobcsq"[r.Intn(8)]
		spec := "%" + flags
		if r.Intn(2) == 0 {
			width = 1 + r.Intn(12)
			spec += strconv.Itoa(width)
		}
		if r.Intn(3) == 0 {
			precision = r.Intn(9)
			spec += "." + strconv.Itoa(precision)
		}
		arg := []string{"0", "7", "-1", "255", "-1024", "0x1f", "123456789012345678901234567890"}[r.Intn(7)]
		if letter == 'c' {
			arg = strconv.Itoa(r.Intn(256))
		} else if letter == 's' || letter == 'q' {
			arg = []string{"", "a", "a b", "hello", "{", "#x"}[r.Intn(6)]
		}
		spec += string(letter)
		want := "<" + written(flags, width, precision, letter, arg) + ">%"
		if got, at, e := Format("<"+spec+">%%", []string{arg}); got != want || at != 0 || e != api.OK {
			t.Fatalf("Format(%q, %q) = %q, %d, not %q", spec, arg, got, e, want)
		}
		starred := "%" + flags + "*.*" + string(letter)
		if got, _, e := Format("<"+starred+">%%", []string{strconv.Itoa(max(width, 0)), strconv.Itoa(precision), arg}); got != want || e != api.OK {
			t.Fatalf("Format(%q) with %d, %d, %q = %q, %d, not %q", starred, width, precision, arg, got, e, want)
		}
		placed := "<%2$" + spec[1:] + ">%%"
		if got, _, e := Format(placed, []string{"x", arg}); got != want || e != api.OK {
			t.Fatalf("Format(%q) = %q, %d, not %q", placed, got, e, want)
		}
		if strings.IndexByte("dxob", letter) >= 0 {
			n, _ := new(big.Int).SetString(arg, 0)
			plain := "%" + strings.ReplaceAll(flags, "#", "") + spec[1+len(flags):]
			s, _, _ := Format(plain, []string{arg})
			if l, done, e := Scan(s, "%"+string(letter)); e != api.OK || done != 1 || l[0] != n.String() {
				t.Fatalf("%q written by %q and read: %q, %d", arg, plain, l, e)
			}
		}
	}
}

var (
	writes = regexp.MustCompile(`^%(%|([1-9][0-9]?\$)?[-+0# ]*([1-9][0-9]{0,2}|\*)?(\.([0-9]{1,3}|\*))?[dxXobcsq])`)
	reads  = regexp.MustCompile(`^%(%|\*?[cn]|\*?([1-9][0-9]{0,2})?([dxobs]|\[(\^(.|\n)|[^^])[^]]*\]))`)
)

// wrongAt is where the first conversion begins that is none by its form, -1 without one; n counts the right ones.
func wrongAt(spec string, form *regexp.Regexp, count func(c string) bool) (at, n int) {
	places, plain := false, false
	for i := 0; i < len(spec); i++ {
		if spec[i] != '%' {
			continue
		}
		c := form.FindString(spec[i:])
		if c == "" {
			return i, n
		}
		if form == writes && c != "%%" {
			here := strings.Contains(c, "$")
			if here && (plain || strings.Contains(c, "*")) || !here && places {
				return i, n
			}
			places, plain = places || here, plain || !here
		}
		if count(c) {
			n++
		}
		i += len(c) - 1
	}
	return -1, n
}

func TestFormsOfConversions(t *testing.T) {
	r := rand.New(rand.NewSource(2))
	letters := "%%%%dscxn%*[]^.$-+0129 az"
	for range 60000 {
		b := make([]byte, r.Intn(7))
		for i := range b {
			b[i] = letters[r.Intn(len(letters))]
		}
		spec := "%" + string(b)
		for _, scan := range []bool{false, true} {
			form := writes
			if scan {
				form = reads
			}
			want, told := wrongAt(spec, form, func(c string) bool { return c != "%%" && (!scan || !strings.HasPrefix(c, "%*")) })
			at, e := Check(spec, scan)
			if at != max(want, 0) || (e == api.OK) != (want < 0) || e != api.OK && e != api.ErrSyntax {
				t.Fatalf("Check(%q, %t) = %d, %d, not %d", spec, scan, at, e, want)
			}
			if scan {
				if n, e := Reads(spec); want < 0 && (n != told || e != api.OK) || want >= 0 && (n != 0 || e != api.ErrSyntax) {
					t.Fatalf("Reads(%q) = %d, %d, not %d", spec, n, e, told)
				}
			}
		}
	}
	for spec, want := range map[string]int{"%99$d": 99, "%2$d%1$d": 2, "%*d": 2, "%.*d": 2, "%*.*s%d": 4, "%d%%%s": 2, "a": 0} {
		if n, e := Needs(spec); n != want || e != api.OK {
			t.Errorf("Needs(%q) = %d, %d", spec, n, e)
		}
	}
}

func TestNumbersByTheTable(t *testing.T) {
	r := rand.New(rand.NewSource(3))
	for range 5000 {
		base := []int{2, 8, 10, 16}[r.Intn(4)]
		n, digits, plus, prefix := r.Int63n(100000)-50000, r.Intn(12), r.Intn(2) == 0, r.Intn(2) == 0
		flags := ""
		if plus {
			flags += "+"
		}
		if prefix {
			flags += "#"
		}
		want := written(flags, -1, digits, map[int]byte{2: 'b', 8: 'o', 10: 'd', 16: 'x'}[base], fmt.Sprint(n))
		if got, e := Number(fmt.Sprint(n), base, digits, plus, prefix); got != want || e != api.OK {
			t.Fatalf("Number(%d, %d, %d) = %q, not %q", n, base, digits, got, want)
		}
		mark, every := []string{",", "' ", "ab"}[r.Intn(3)], 1+r.Intn(4)
		sign, rest := "", fmt.Sprint(n)
		if n < 0 {
			sign, rest = "-", rest[1:]
		}
		var groups []string
		for len(rest) > every {
			groups = append([]string{rest[len(rest)-every:]}, groups...)
			rest = rest[:len(rest)-every]
		}
		want = sign + strings.Join(append([]string{rest}, groups...), mark)
		got, e := Group(fmt.Sprint(n), mark, every)
		back, e2 := Ungroup(want, mark, every)
		if got != want || e != api.OK || back != fmt.Sprint(n) || e2 != api.OK {
			t.Fatalf("Group(%d, %q, %d) = %q, not %q; back %q, %d", n, mark, every, got, want, back, e2)
		}
		if wrong, e := Ungroup(want+mark, mark, every); wrong != "" || e != api.ErrSyntax {
			t.Fatalf("Ungroup(%q) = %q, %d", want+mark, wrong, e)
		}
		width := r.Intn(9)
		s := strings.Repeat("s", r.Intn(9))
		fill := strings.Repeat("-", max(width-len(s), 0))
		left, _ := Pad(s, width, true, '-')
		right, _ := Pad(s, width, false, '-')
		if left != fill+s || right != s+fill {
			t.Fatalf("Pad(%q, %d) = %q, %q", s, width, left, right)
		}
	}
	for i, e := range []api.Errno{errno(Pad("", 999, true, 'x')), errno(Number("1", 16, 999, false, false)), errno(Group("1", ",", 100)), errno(Ungroup("1", ",", 100)), errno(Columns(nil, 99))} {
		if e != api.OK {
			t.Errorf("the greatest argument of %d: %d", i, e)
		}
	}
	for i, e := range []api.Errno{errno(Pad("", 1000, true, 'x')), errno(Pad("", -1, true, 'x')), errno(Number("1", 16, 1000, false, false)), errno(Number("1", 16, -1, false, false)), errno(Number("1", 36, 0, false, false)), errno(Group("1", ",", 101)), errno(Group("1", ",", 0)), errno(Ungroup("1", ",", 101)), errno(Columns(nil, 100)), errno(Columns(nil, -1))} {
		if e != api.ErrRange {
			t.Errorf("an argument beyond, of %d: %d", i, e)
		}
	}
}

func errno(_ string, e api.Errno) api.Errno { return e }

func TestLinesOfWords(t *testing.T) {
	r := rand.New(rand.NewSource(4))
	for range 5000 {
		var rows [][]string
		s := ""
		for range r.Intn(8) {
			s += strings.Repeat("w", r.Intn(5)) + []string{" ", "\n", "\t ", "\v\f\r"}[r.Intn(4)]
			var row []string
			for range r.Intn(4) {
				row = append(row, strings.Repeat("c", r.Intn(4)))
			}
			rows = append(rows, row)
		}
		width, gap := 1+r.Intn(9), r.Intn(3)
		var want []string
		for _, w := range strings.Fields(s) {
			if n := len(want) - 1; n >= 0 && len(want[n])+1+len(w) <= width {
				want[n] += " " + w
			} else {
				want = append(want, w)
			}
		}
		if got, e := Wrap(s, width); !slices.Equal(got, want) || e != api.OK {
			t.Fatalf("Wrap(%q, %d) = %q, not %q", s, width, got, want)
		}
		var columns [9]int
		for _, row := range rows {
			for i, cell := range row {
				columns[i] = max(columns[i], len(cell))
			}
		}
		table := ""
		for _, row := range rows {
			for i, cell := range row {
				if table += cell; i+1 < len(row) {
					table += strings.Repeat(" ", columns[i]-len(cell)+gap)
				}
			}
			table += "\n"
		}
		if got, e := Columns(rows, gap); got != table || e != api.OK {
			t.Fatalf("Columns(%q, %d) = %q, not %q", rows, gap, got, table)
		}
	}
	line := strings.Repeat("x", 65535)
	if s, e := Columns([][]string{{line}}, 0); len(s) != 65536 || e != api.OK {
		t.Errorf("Columns to the greatest length: %d, %d", len(s), e)
	}
	if s, e := Columns([][]string{{line[:65000], "x"}, {""}}, 99); e != api.OK {
		t.Errorf("Columns: %d, %d", len(s), e)
	}
	if s, e := Columns([][]string{{line[:65500], ""}, {"", ""}}, 0); s != "" || e != api.ErrLimit {
		t.Errorf("Columns of blanks that are too many: %d, %d", len(s), e)
	}
}
