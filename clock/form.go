package clock

import (
	"strconv"
	"strings"

	"threadbare/api"
)

// letter says how it is written, and how many bytes of a text are it (0: none).
type letter struct {
	write func(t int) string
	read  func(s string) int
}

func names(letter byte) []string {
	switch letter {
	case 'B', 'b':
		return []string{"January", "February", "March", "April", "May", "June", "July", "August", "September", "October", "November", "December"}
	case 'A', 'a':
		return []string{"Monday", "Tuesday", "Wednesday", "Thursday", "Friday", "Saturday", "Sunday"}
	}
	return []string{"AM", "PM"}
}

func padded(n, width int) string {
	s := strconv.Itoa(n)
	return strings.Repeat("0", max(width-len(s), 0)) + s
}

func digits(s string) int {
	n := 0
	for n < len(s) && s[n] >= '0' && s[n] <= '9' {
		n++
	}
	return n
}

// number is a letter of a number in so many digits.
func number(width int, of func(t int) int) letter {
	return letter{func(t int) string { return padded(of(t), width) }, func(s string) int {
		if digits(s) < width {
			return 0
		}
		return width
	}}
}

// part is a letter of a number of the date in so many digits.
func part(width int, of func(d api.Date) int) letter {
	return number(width, func(t int) int { return of(at(t)) })
}

// named is a letter of names, or of as many of their first letters as are told (0: all).
func named(mark byte, short int, of func(t int) int) letter {
	cut := func(s string) string {
		if short > 0 {
			return s[:short]
		}
		return s
	}
	return letter{func(t int) string { return cut(names(mark)[of(t)]) }, func(s string) int {
		for _, name := range names(mark) {
			name = cut(name)
			if len(s) >= len(name) && strings.EqualFold(s[:len(name)], name) {
				return len(name)
			}
		}
		return 0
	}}
}

func readDay(s string) int {
	n := min(digits(s), 2)
	if n == 2 && s[0] == '0' {
		return 1
	}
	return n
}

func readTime(s string) int {
	rest := strings.TrimPrefix(s, "-")
	n := digits(rest)
	if n == 0 || rest[0] == '0' && (n > 1 || len(rest) < len(s)) {
		return 0
	}
	return len(s) - len(rest) + n
}

func half(h int) int { return (h+11)%12 + 1 }

func letters() map[byte]letter {
	wd := func(t int) int { return weekday(floor(t, day)) }
	monthOf := func(t int) int { return at(t).Month - 1 }
	return map[byte]letter{
		'Y': part(4, func(d api.Date) int { return d.Year }),
		'y': part(2, func(d api.Date) int { return d.Year % 100 }),
		'm': part(2, func(d api.Date) int { return d.Month }),
		'd': part(2, func(d api.Date) int { return d.Day }),
		'H': part(2, func(d api.Date) int { return d.Hour }),
		'M': part(2, func(d api.Date) int { return d.Minute }),
		'S': part(2, func(d api.Date) int { return d.Second }),
		'I': part(2, func(d api.Date) int { return half(d.Hour) }),
		'j': number(3, func(t int) int { return yearday(floor(t, day)) }),
		'u': number(1, wd),
		'G': number(4, func(t int) int { y, _ := week(floor(t, day)); return y }),
		'V': number(2, func(t int) int { _, n := week(floor(t, day)); return n }),
		'e': {func(t int) string { return strconv.Itoa(at(t).Day) }, readDay},
		's': {strconv.Itoa, readTime},
		'p': named('p', 0, func(t int) int { return at(t).Hour / 12 }),
		'B': named('B', 0, monthOf),
		'b': named('b', 3, monthOf),
		'A': named('A', 0, func(t int) int { return wd(t) - 1 }),
		'a': named('a', 3, func(t int) int { return wd(t) - 1 }),
	}
}

// piece is a part of a form: a letter, or (mark 0) a plain text.
type piece struct {
	mark  byte
	plain string
	letter
}

// pieces reads a form.
func pieces(form string) ([]piece, api.Errno) {
	known := letters()
	var out []piece
	for i := 0; i < len(form); i++ {
		if form[i] != '%' {
			out = append(out, piece{plain: form[i : i+1]})
			continue
		}
		i++
		if i == len(form) {
			return nil, api.ErrSyntax
		}
		switch l, ok := known[form[i]]; {
		case ok:
			out = append(out, piece{mark: form[i], letter: l})
		case form[i] == '%':
			out = append(out, piece{plain: "%"})
		case form[i] == 'D':
			more, _ := pieces("%m/%d/%Y")
			out = append(out, more...)
		case form[i] == 'T':
			more, _ := pieces("%H:%M:%S")
			out = append(out, more...)
		default:
			return nil, api.ErrSyntax
		}
	}
	return out, api.OK
}

// Write writes a time by a form.
func Write(time int, form string) (string, api.Errno) {
	if !isTime(time) {
		return "", api.ErrRange
	}
	l, e := pieces(form)
	if e != api.OK {
		return "", e
	}
	var out strings.Builder
	for _, p := range l {
		if p.mark == 0 {
			out.WriteString(p.plain)
		} else {
			out.WriteString(p.write(time))
		}
	}
	return out.String(), api.OK
}

// found is what was read, by letters.
type found map[byte]string

// Read reads a text by a form.
func Read(s, form string) (int, api.Errno) {
	l, e := pieces(form)
	if e != api.OK {
		return 0, e
	}
	got := found{}
	for _, p := range l {
		n := len(p.plain)
		if p.mark == 0 && !strings.HasPrefix(s, p.plain) {
			return 0, api.ErrSyntax
		}
		if p.mark != 0 {
			n = p.read(s)
			if _, twice := got[p.mark]; n == 0 || twice {
				return 0, api.ErrSyntax
			}
			got[p.mark] = s[:n]
		}
		s = s[n:]
	}
	if s != "" {
		return 0, api.ErrSyntax
	}
	t, ok := got.time()
	if !ok {
		return 0, api.ErrRange
	}
	for _, p := range l {
		if p.mark != 0 && !strings.EqualFold(p.write(t), got[p.mark]) {
			return 0, api.ErrState
		}
	}
	return t, api.OK
}

// number returns the first of some letters that was read, otherwise what is taken without one.
func (f found) number(marks string, without int) int {
	for i := range len(marks) {
		s, ok := f[marks[i]]
		if !ok {
			continue
		}
		switch marks[i] {
		case 'B', 'b':
			for k, name := range names('B') {
				if strings.EqualFold(s[:3], name[:3]) {
					return k + 1
				}
			}
		case 'y':
			n, _ := strconv.Atoi(s)
			if n < 69 {
				n += 100
			}
			return 1900 + n
		}
		n, _ := strconv.Atoi(s)
		return n
	}
	return without
}

// time returns the time that was read; false if there is none.
func (f found) time() (int, bool) {
	if s, ok := f['s']; ok {
		t, err := strconv.Atoi(s)
		return t, err == nil && isTime(t)
	}
	d := api.Date{Year: f.number("Yy", 1970), Month: 1, Day: 1, Hour: f.number("H", -1), Minute: f.number("M", 0), Second: f.number("S", 0)}
	if d.Hour < 0 {
		d.Hour = f.hour()
	}
	n := f.number("j", -1)
	if n < 0 {
		d.Month, d.Day = f.number("mBb", 1), f.number("de", 1)
		n = 1
	}
	t, e := Time(d)
	y := d.Year
	t += (n - 1) * day
	return t, e == api.OK && n > 0 && isTime(t) && at(t).Year == y
}

func (f found) hour() int {
	s, ok := f['I']
	if !ok {
		return 0
	}
	h, _ := strconv.Atoi(s)
	switch {
	case h < 1 || h > 12:
		return -1
	case strings.EqualFold(f['p'], "PM"):
		return h%12 + 12
	}
	return h % 12
}
