package host

import (
	"strconv"
	"strings"

	"threadbare/api"
	"threadbare/binary"
)

const (
	maxTime = 1000000000
	maxBook = 5000000
)

// Valid reports whether an event is valid.
func Valid(e api.Event) bool {
	short := len(e.Text) <= api.MaxText
	switch e.Kind {
	case api.EScript:
		return e.Name == "" && short && e.N >= 0 && e.N <= api.MaxSteps
	case api.EFeed:
		return e.Name != "" && short && e.N == 0
	case api.EClose:
		return e.Name != "" && e.Text == "" && e.N == 0
	case api.ETime:
		return e.Name == "" && e.Text == "" && e.N >= 0 && e.N <= maxTime
	}
	return false
}

// written writes a text as a word of a line.
func written(s string) string {
	switch s {
	case "":
		return "-"
	case "-":
		return "%2D"
	}
	return binary.Percent(s)
}

// Write returns an event's line.
func Write(e api.Event) (string, api.Errno) {
	if !Valid(e) {
		return "", api.ErrInvalid
	}
	switch e.Kind {
	case api.EScript:
		return "script " + strconv.Itoa(e.N) + " " + written(e.Text), api.OK
	case api.EFeed:
		return "feed " + written(e.Name) + " " + written(e.Text), api.OK
	case api.EClose:
		return "close " + written(e.Name), api.OK
	}
	return "time " + strconv.Itoa(e.N), api.OK
}

func readText(s string) string {
	if s == "-" {
		return ""
	}
	out, _ := binary.Unpercent(s)
	return out
}

// Read returns the event of a line.
func Read(line string) (api.Event, api.Errno) {
	kind, rest, _ := strings.Cut(line, " ")
	first, second, _ := strings.Cut(rest, " ")
	n, _ := strconv.Atoi(first)
	var e api.Event
	switch kind {
	case "script":
		e = api.Event{Kind: api.EScript, N: n, Text: readText(second)}
	case "feed":
		e = api.Event{Kind: api.EFeed, Name: readText(first), Text: readText(second)}
	case "close":
		e = api.Event{Kind: api.EClose, Name: readText(first)}
	case "time":
		e = api.Event{Kind: api.ETime, N: n}
	}
	// what is not written just so is no line
	if back, wrong := Write(e); wrong != api.OK || back != line {
		return api.Event{}, api.ErrSyntax
	}
	return e, api.OK
}

// summed returns the sum of a line behind another sum.
func summed(before uint64, line string) uint64 { return binary.Sum64(hex(before) + " " + line) }

func hex(sum uint64) string {
	s := strconv.FormatUint(sum, 16)
	return strings.Repeat("0", 16-len(s)) + s
}

// bookLine writes a line of a book.
func bookLine(l api.Line) string {
	return strconv.Itoa(l.Number) + " " + hex(l.Sum) + " " + l.Text + "\n"
}

// Lines returns the lines of a book, and whether its end is torn.
func Lines(book string) (l []api.Line, torn bool, e api.Errno) {
	if len(book) > maxBook {
		return nil, false, api.ErrLong
	}
	sum := uint64(0)
	for book != "" {
		end := strings.IndexByte(book, '\n')
		if end < 0 {
			return l, true, api.OK
		}
		whole := book[:end+1]
		book = book[end+1:]
		_, rest, _ := strings.Cut(whole[:end], " ")
		_, text, _ := strings.Cut(rest, " ")
		line := api.Line{Number: len(l), Text: text, Sum: summed(sum, text)}
		if _, e := Read(text); e != api.OK || bookLine(line) != whole {
			return l, false, api.ErrSum
		}
		if line.Number == api.MaxLines {
			return nil, false, api.ErrLimit
		}
		l, sum = append(l, line), line.Sum
	}
	return l, false, api.OK
}

// Parting returns how many first lines of two books are the same.
func Parting(a, b string) (same int, e api.Errno) {
	x, _, e := Lines(a)
	if e != api.OK {
		return 0, e
	}
	y, _, e := Lines(b)
	if e != api.OK {
		return 0, e
	}
	for same < len(x) && same < len(y) && x[same] == y[same] {
		same++
	}
	return same, api.OK
}
