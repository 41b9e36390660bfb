package spell

import (
	"iter"
	"strings"

	"threadbare/api"
	"threadbare/big"
	"threadbare/list"
	"threadbare/text"
)

// wrong is what a conversion with an error is left by.
type wrong struct {
	at int
	e  api.Errno
}

// caught turns that into results.
func caught(panicked any, at *int, e *api.Errno) {
	switch p := panicked.(type) {
	case nil:
	case wrong:
		*at, *e = p.at, p.e
	default:
		panic(p)
	}
}

// none stands for a width or a precision that is not there, star for one that is an argument.
const (
	none = -1
	star = -2
)

// conversion is one of a specification to write; before it stand plain bytes. Its letter is 0 for the end.
type conversion struct {
	plain            string
	at               int
	place            int
	minus, plus      bool
	zero, sharp, gap bool
	width, precision int
	letter           byte
}

// conversions yields the conversions of a specification, and at last its plain end; it panics at a wrong one.
func conversions(spec string) iter.Seq[conversion] {
	return func(yield func(conversion) bool) {
		var first *conversion
		for at := 0; ; {
			n := strings.IndexByte(spec[at:], '%')
			if n < 0 {
				yield(conversion{plain: spec[at:]})
				return
			}
			c, end, ok := readConversion(spec, at+n)
			c.plain = spec[at : at+n]
			if ok && c.letter != '%' {
				if first == nil {
					first = &c
				}
				ok = (first.place > 0) == (c.place > 0) && (c.place == 0 || c.width != star && c.precision != star)
			}
			if !ok {
				// what stands before it counts ahead of it
				if !yield(conversion{plain: c.plain}) {
					return
				}
				panic(wrong{c.at, api.ErrSyntax})
			}
			if !yield(c) {
				return
			}
			at = end
		}
	}
}

// number reads up to most digits; its length is 0 without any.
func number(s string, most int) (n, length int) {
	for length < len(s) && length < most && s[length] >= '0' && s[length] <= '9' {
		n = 10*n + int(s[length]-'0')
		length++
	}
	return n, length
}

// readConversion reads the conversion that begins at a percent sign.
func readConversion(spec string, at int) (c conversion, end int, ok bool) {
	c = conversion{at: at, width: none, precision: none}
	i := at + 1
	if n, k := number(spec[i:], 2); k > 0 && spec[i] != '0' && strings.HasPrefix(spec[i+k:], "$") {
		c.place = n
		i += k + 1
	}
flags:
	for ; i < len(spec); i++ {
		switch spec[i] {
		case '-':
			c.minus = true
		case '+':
			c.plus = true
		case '0':
			c.zero = true
		case '#':
			c.sharp = true
		case ' ':
			c.gap = true
		default:
			break flags
		}
	}
	if n, k := number(spec[i:], 3); k > 0 {
		c.width = n
		i += k
	} else if strings.HasPrefix(spec[i:], "*") {
		c.width = star
		i++
	}
	if strings.HasPrefix(spec[i:], ".") {
		n, k := number(spec[i+1:], 3)
		c.precision = n
		if k == 0 && strings.HasPrefix(spec[i+1:], "*") {
			c.precision, k = star, 1
		}
		if k == 0 {
			return c, 0, false
		}
		i += k + 1
	}
	if i == len(spec) {
		return c, 0, false
	}
	c.letter = spec[i]
	if c.letter == '%' {
		return c, i + 1, i == at+1
	}
	return c, i + 1, strings.IndexByte("dxXobcsq", c.letter) >= 0
}

// letter says how the argument of a conversion is written.
type letter struct {
	write func(c conversion, arg string) (string, api.Errno)
}

func letters() map[byte]letter {
	short := func(c conversion, s string) (string, api.Errno) {
		if c.precision >= 0 && c.precision < len(s) {
			s = s[:c.precision]
		}
		return c.filled(s), api.OK
	}
	m := map[byte]letter{
		's': {short},
		'q': {func(c conversion, s string) (string, api.Errno) { return short(c, list.Quote(s)) }},
		'c': {func(c conversion, s string) (string, api.Errno) {
			n, e := bounded(s, 0, 255)
			return c.filled(string([]byte{byte(n)})), e
		}},
		'X': {func(c conversion, s string) (string, api.Errno) {
			s, e := c.number(s, 16, "0X")
			return text.Upper(s), e
		}},
	}
	for _, way := range []struct {
		mark   byte
		base   int
		prefix string
	}{{'d', 10, ""}, {'x', 16, "0x"}, {'o', 8, "0o"}, {'b', 2, "0b"}} {
		m[way.mark] = letter{func(c conversion, s string) (string, api.Errno) { return c.number(s, way.base, way.prefix) }}
	}
	return m
}

// bounded returns a number from low to high.
func bounded(s string, low, high int) (int, api.Errno) {
	n, e := big.Int(s)
	switch {
	case e == api.ErrSyntax:
		return 0, api.ErrKind
	case e != api.OK || n < low || n > high:
		return 0, api.ErrRange
	}
	return n, api.OK
}

// filled fills a text with blanks.
func (c conversion) filled(s string) string {
	if len(s) >= c.width {
		return s
	}
	blanks := strings.Repeat(" ", c.width-len(s))
	if c.minus {
		return s + blanks
	}
	return blanks + s
}

func (c conversion) number(arg string, base int, prefix string) (string, api.Errno) {
	n, e := big.Canonical(arg)
	if e == api.ErrSyntax {
		return "", api.ErrKind
	}
	if e != api.OK {
		return "", e
	}
	digits, below := strings.CutPrefix(n, "-")
	digits, _ = big.Base(digits, base)
	head := ""
	switch {
	case below:
		head = "-"
	case c.plus:
		head = "+"
	case c.gap:
		head = " "
	}
	if c.sharp {
		head += prefix
	}
	least := c.precision
	if c.zero && !c.minus && least < 0 {
		least = c.width - len(head)
	}
	return c.filled(head + zeros(digits, least)), api.OK
}

func zeros(digits string, least int) string {
	return strings.Repeat("0", max(least-len(digits), 0)) + digits
}

// Format writes arguments by a specification.
func Format(spec string, args []string) (s string, at int, e api.Errno) {
	defer func() { caught(recover(), &at, &e) }()
	known := letters()
	taken := 0
	take := func(c conversion) string {
		i := taken
		taken++
		if c.place > 0 {
			i = c.place - 1
		}
		if i >= len(args) {
			panic(wrong{c.at, api.ErrNone})
		}
		return args[i]
	}
	var out strings.Builder
	put := func(piece string, at int) {
		if out.Len()+len(piece) > api.MaxText {
			panic(wrong{at, api.ErrLimit})
		}
		out.WriteString(piece)
	}
	for c := range conversions(spec) {
		put(c.plain, 0)
		switch c.letter {
		case 0:
		case '%':
			put("%", c.at)
		default:
			c.starred(take)
			piece, e := known[c.letter].write(c, take(c))
			if e != api.OK {
				panic(wrong{c.at, e})
			}
			put(piece, c.at)
		}
	}
	return out.String(), 0, api.OK
}

// starred takes the arguments that a width and a precision are.
func (c *conversion) starred(take func(conversion) string) {
	for _, one := range []*int{&c.width, &c.precision} {
		if *one != star {
			continue
		}
		n, e := bounded(take(*c), -999, 999)
		if e != api.OK {
			panic(wrong{c.at, e})
		}
		if one == &c.width && n < 0 {
			c.minus, n = true, -n
		}
		*one = max(n, none)
	}
}

// Needs returns how many arguments a specification takes.
func Needs(spec string) (n int, e api.Errno) {
	at := 0
	defer func() { caught(recover(), &at, &e) }()
	most := 0
	for c := range conversions(spec) {
		if c.letter == 0 || c.letter == '%' {
			continue
		}
		most = max(most, c.place)
		for _, one := range []int{c.width, c.precision, star} {
			if one == star && c.place == 0 {
				most++
			}
		}
	}
	return most, api.OK
}

// Check returns where the first conversion that is none begins.
func Check(spec string, scan bool) (at int, e api.Errno) {
	defer func() { caught(recover(), &at, &e) }()
	if scan {
		_, at, e = fields(spec)
		return at, e
	}
	for range conversions(spec) {
		continue
	}
	return 0, api.OK
}
