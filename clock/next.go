package clock

import (
	"iter"
	"strconv"
	"strings"

	"threadbare/api"
)

// fits has the values that a field of a rule lets through.
type fits [60]bool

// ranges are the least and greatest values of the five fields.
func bounds(i int) (low, high int) {
	return [5]int{0, 0, 1, 1, 1}[i], [5]int{59, 23, 31, 12, 7}[i]
}

func ruleNumber(s string, low, high int) (int, bool) {
	n, err := strconv.Atoi(s)
	return n, err == nil && strconv.Itoa(n) == s && n >= low && n <= high
}

func readRule(rule string) (l [5]fits, ok bool) {
	parts := strings.Split(rule, " ")
	if len(parts) != len(l) {
		return l, false
	}
	for i, p := range parts {
		low, high := bounds(i)
		if l[i], ok = readField(p, low, high); !ok {
			return l, false
		}
	}
	return l, true
}

func readField(s string, low, high int) (f fits, ok bool) {
	step := 1
	if rest, every := strings.CutPrefix(s, "*/"); every {
		if step, ok = ruleNumber(rest, 1, 59); !ok {
			return f, false
		}
		s = "*"
	}
	if s == "*" {
		for n := low; n <= high; n++ {
			f[n] = n%step == 0
		}
		return f, true
	}
	for _, one := range strings.Split(s, ",") {
		a, b, isRange := strings.Cut(one, "-")
		if !isRange {
			b = a
		}
		from, ok := ruleNumber(a, low, high)
		to, ok2 := ruleNumber(b, low, high)
		if !ok || !ok2 || from > to {
			return f, false
		}
		for n := from; n <= to; n++ {
			f[n] = true
		}
	}
	return f, true
}

// daysFrom yields the days from one on, up to the end of all times.
func daysFrom(days int) iter.Seq2[int, api.Date] {
	return func(yield func(int, api.Date) bool) {
		for d := at(days * day); d.Year <= lastYear; days++ {
			if !yield(days, d) {
				return
			}
			if d.Day++; d.Day > daysIn(d.Year, d.Month) {
				d.Day, d.Month = 1, d.Month+1
			}
			if d.Month > 12 {
				d.Month, d.Year = 1, d.Year+1
			}
		}
	}
}

// Next returns the least time greater than a given one that fits a rule.
func Next(time int, rule string) (int, api.Errno) {
	if !isTime(time) {
		return 0, api.ErrRange
	}
	l, ok := readRule(rule)
	if !ok {
		return 0, api.ErrSyntax
	}
	begin := floor(time, 60)*60 + 60
	for days, d := range daysFrom(floor(time, day)) {
		if !l[2][d.Day] || !l[3][d.Month] || !l[4][weekday(days)] {
			continue
		}
		for m := max(begin-days*day, 0) / 60; m < 24*60; m++ {
			if l[0][m%60] && l[1][m/60] {
				return days*day + m*60, api.OK
			}
		}
	}
	return 0, api.ErrNone
}
