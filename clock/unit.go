package clock

import "threadbare/api"

// The units.
const (
	second = iota
	minute
	hour
	oneDay
	oneWeek
	month
	year
	units
)

func unitOf(name string) (int, bool) {
	names := [units]string{"second", "minute", "hour", "day", "week", "month", "year"}
	for i, n := range names {
		if n == name {
			return i, true
		}
	}
	return 0, false
}

// lengths are the seconds of units, or their months.
func length(unit int) int {
	return [units]int{1, 60, 3600, day, 7 * day, 1, 12}[unit]
}

// add adds units; false if the result is no time.
func add(time, n, unit int) (int, bool) {
	if n > last-first || n < first-last {
		return 0, false
	}
	if unit < month {
		time += n * length(unit)
		return time, isTime(time)
	}
	d := at(time)
	months := d.Year*12 + d.Month - 1 + n*length(unit)
	d.Year, d.Month = floor(months, 12), months-12*floor(months, 12)+1
	if !isYear(d.Year) {
		return 0, false
	}
	d.Day = min(d.Day, daysIn(d.Year, d.Month))
	return timeOf(d), true
}

// Add adds n units.
func Add(time, n int, unit string) (int, api.Errno) {
	if !isTime(time) {
		return 0, api.ErrRange
	}
	u, ok := unitOf(unit)
	if !ok {
		return 0, api.ErrName
	}
	t, ok := add(time, n, u)
	if !ok {
		return 0, api.ErrRange
	}
	return t, api.OK
}

// Between returns how many whole units lie from a to b.
func Between(a, b int, unit string) (int, api.Errno) {
	if !isTime(a) || !isTime(b) {
		return 0, api.ErrRange
	}
	u, ok := unitOf(unit)
	if !ok {
		return 0, api.ErrName
	}
	if a > b {
		return -between(b, a, u), api.OK
	}
	return between(a, b, u), api.OK
}

func between(a, b, unit int) int {
	if unit < month {
		return (b - a) / length(unit)
	}
	from, to := at(a), at(b)
	n := (to.Year*12 + to.Month - from.Year*12 - from.Month) / length(unit)
	for n > 0 {
		if t, ok := add(a, n, unit); ok && t <= b {
			break
		}
		n--
	}
	return n
}

// Start returns the beginning of the unit in which a time lies.
func Start(time int, unit string) (int, api.Errno) {
	if !isTime(time) {
		return 0, api.ErrRange
	}
	u, ok := unitOf(unit)
	if !ok {
		return 0, api.ErrName
	}
	even := func(n int) func(int) int {
		return func(t int) int { return floor(t, n) * n }
	}
	starts := [units]func(int) int{
		second:  even(1),
		minute:  even(60),
		hour:    even(3600),
		oneDay:  even(day),
		oneWeek: func(t int) int { days := floor(t, day); return (days - weekday(days) + 1) * day },
		month:   func(t int) int { d := at(t); return daysTo(d.Year, d.Month, 1) * day },
		year:    func(t int) int { return daysTo(at(t).Year, 1, 1) * day },
	}
	return starts[u](time), api.OK
}
