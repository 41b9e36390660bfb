package spell

import (
	"strings"

	"threadbare/api"
	"threadbare/big"
	"threadbare/text"
)

// field is a part of a specification to read: white bytes, a plain byte, or a conversion.
type field struct {
	kind   byte // ' ', 0 for a plain byte, or the letter
	plain  byte
	silent bool
	width  int
	set    [256]bool
}

// fields reads a specification.
func fields(spec string) (l []field, at int, e api.Errno) {
	for i := 0; i < len(spec); {
		switch {
		case text.White(spec[i]):
			l = append(l, field{kind: ' '})
			i++
		case spec[i] != '%':
			l = append(l, field{plain: spec[i]})
			i++
		default:
			f, end, ok := readField(spec, i)
			if !ok {
				return nil, i, api.ErrSyntax
			}
			l = append(l, f)
			i = end
		}
	}
	return l, 0, api.OK
}

func readField(spec string, at int) (f field, end int, ok bool) {
	i := at + 1
	if strings.HasPrefix(spec[i:], "*") {
		f.silent = true
		i++
	}
	n, k := number(spec[i:], 3)
	if k > 0 {
		if spec[i] == '0' {
			return f, 0, false
		}
		f.width = n
		i += k
	}
	if i == len(spec) {
		return f, 0, false
	}
	f.kind = spec[i]
	switch f.kind {
	case 'd', 'x', 'o', 'b', 's':
		return f, i + 1, true
	case 'c', 'n':
		return f, i + 1, f.width == 0
	case '%':
		return f, i + 1, i == at+1
	case '[':
		n := f.readSet(spec[i+1:])
		return f, i + 1 + n, n > 0
	}
	return f, 0, false
}

// readSet reads a set behind its bracket, and returns its length (0: it has no end).
func (f *field) readSet(s string) int {
	begin := 0
	not := strings.HasPrefix(s, "^")
	if not {
		begin = 1
	}
	if begin >= len(s) {
		return 0
	}
	// a closing bracket directly at the beginning is itself
	n := strings.IndexByte(s[begin+1:], ']')
	if n < 0 {
		return 0
	}
	end := begin + 1 + n
	for i := begin; i < end; i++ {
		from, to := s[i], s[i]
		if i+2 < end && s[i+1] == '-' {
			to = s[i+2]
			i += 2
		}
		for c := int(min(from, to)); c <= int(max(from, to)); c++ {
			f.set[c] = true
		}
	}
	for c := range f.set {
		f.set[c] = f.set[c] != not
	}
	return end + 1
}

// source is a text that is read, up to at.
type source struct {
	s  string
	at int
}

func (r *source) white() {
	for r.at < len(r.s) && text.White(r.s[r.at]) {
		r.at++
	}
}

// run takes as many bytes as fit, at most width (0: any number).
func (r *source) run(width int, fits func(byte) bool) string {
	begin := r.at
	for r.at < len(r.s) && (width == 0 || r.at-begin < width) && fits(r.s[r.at]) {
		r.at++
	}
	return r.s[begin:r.at]
}

// worth returns what a digit is worth, 99 for another byte.
func worth(c byte) int {
	switch {
	case c >= '0' && c <= '9':
		return int(c - '0')
	case c >= 'a' && c <= 'f':
		return int(c-'a') + 10
	case c >= 'A' && c <= 'F':
		return int(c-'A') + 10
	}
	return 99
}

// number reads a number, as it is told; ok is false if none fits.
func (r *source) number(base, width int) (s string, ok bool) {
	r.white()
	sign := ""
	if r.at < len(r.s) && (r.s[r.at] == '-' || r.s[r.at] == '+') {
		if width == 1 {
			return "", false
		}
		sign = strings.TrimPrefix(r.s[r.at:r.at+1], "+")
		r.at++
		width = max(width-1, 0)
	}
	digits := r.run(width, func(c byte) bool { return worth(c) < base })
	if digits == "" {
		return "", false
	}
	n, e := big.Read(sign+digits, base)
	if e != api.OK {
		panic(wrong{0, e})
	}
	return n, true
}

// read reads a field: what it tells, and whether it fits.
func (r *source) read(f field) (told string, ok bool) {
	switch f.kind {
	case ' ':
		r.white()
		return "", true
	case 'd', 'x', 'o', 'b':
		return r.number(map[byte]int{'d': 10, 'x': 16, 'o': 8, 'b': 2}[f.kind], f.width)
	case 's':
		r.white()
		told = r.run(f.width, func(c byte) bool { return !text.White(c) })
		return told, told != ""
	case '[':
		told = r.run(f.width, func(c byte) bool { return f.set[c] })
		return told, told != ""
	case 'n':
		return big.Of(r.at), true
	case '%':
		r.white()
		f.plain = '%'
	}
	if r.at == len(r.s) || f.kind != 'c' && r.s[r.at] != f.plain {
		return "", false
	}
	r.at++
	return big.Of(int(r.s[r.at-1])), true
}

// Scan reads a text by a specification.
func Scan(s, spec string) (l []string, done int, e api.Errno) {
	at := 0
	defer func() {
		if e != api.OK {
			l, done = nil, 0
		}
	}()
	defer func() { caught(recover(), &at, &e) }()
	parts, _, e := fields(spec)
	if e != api.OK {
		return nil, 0, e
	}
	r := &source{s: s}
	for _, f := range parts {
		told, ok := r.read(f)
		if !ok {
			break
		}
		if f.kind == 0 || f.kind == ' ' || f.kind == '%' {
			continue
		}
		done++
		if !f.silent {
			l = append(l, told)
		}
	}
	return l, done, api.OK
}

// Reads returns how many conversions of a specification tell something.
func Reads(spec string) (int, api.Errno) {
	parts, _, e := fields(spec)
	n := 0
	for _, f := range parts {
		if f.kind != 0 && f.kind != ' ' && f.kind != '%' && !f.silent {
			n++
		}
	}
	return n, e
}
