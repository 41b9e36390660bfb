package clock

import (
	"math/rand"
	"testing"
	"time"

	"threadbare/api"
)

func TestAgainstAnother(t *testing.T) {
	r := rand.New(rand.NewSource(3))
	for range 20000 {
		n := first + r.Intn(last-first+1)
		other := time.Unix(int64(n), 0).UTC()
		d, e := Date(n)
		want := api.Date{Year: other.Year(), Month: int(other.Month()), Day: other.Day(), Hour: other.Hour(), Minute: other.Minute(), Second: other.Second()}
		if d != want || e != api.OK {
			t.Fatalf("Date(%d) = %v", n, d)
		}
		if back, e := Time(d); back != n || e != api.OK || !Valid(d) {
			t.Fatalf("Time(%v) = %d", d, back)
		}
		w, _ := Weekday(n)
		yd, _ := Yearday(n)
		y, k, _ := Week(n)
		wy, wk := other.ISOWeek()
		if w != (int(other.Weekday())+6)%7+1 || yd != other.YearDay() || y != wy || k != wk {
			t.Fatalf("%v: weekday %d, day %d, week %d of %d", d, w, yd, k, y)
		}
		begin, e := OfWeek(y, k, w)
		start, _ := Start(n, "day")
		if begin != start || e != api.OK {
			t.Fatalf("OfWeek(%d, %d, %d) = %d, not %d", y, k, w, begin, start)
		}
		form := []string{"%s", "%Y-%m-%dT%T", "%j %Y %I %p %M%S", "%A, %e. %B %Y %H.%M.%S %y %b %a %G-%V-%u", "%D %T%%"}[r.Intn(5)]
		s, e := Write(n, form)
		back, e2 := Read(s, form)
		if back != n || e != api.OK || e2 != api.OK {
			t.Fatalf("%q of %v: %q, %d, %d", form, d, s, back, e2)
		}
		for _, u := range []string{"second", "minute", "hour", "day", "week", "month", "year"} {
			s, e := Start(n, u)
			again, _ := Start(s, u)
			b, _ := Between(s, n, u)
			if s > n || again != s || b != 0 || e != api.OK {
				t.Fatalf("Start(%d, %s) = %d", n, u, s)
			}
			m := first + r.Intn(last-first+1)
			c, _ := Between(min(n, m), max(n, m), u)
			x, e := Add(min(n, m), c, u)
			z, e2 := Add(min(n, m), c+1, u)
			if e != api.OK || x > max(n, m) || e2 == api.OK && z <= max(n, m) {
				t.Fatalf("Between %d and %d: %d %ss", n, m, c, u)
			}
		}
	}
}

func of(y, m, d int) int { return daysTo(y, m, d) * day }

func TestDates(t *testing.T) {
	for _, d := range []api.Date{{}, {Year: 1, Month: 1}, {Year: 1, Month: 13, Day: 1}, {Year: 2001, Month: 2, Day: 29}, {Year: 10000, Month: 1, Day: 1}, {Year: 1, Month: 1, Day: 1, Hour: 24}, {Year: 1, Month: 1, Day: 1, Minute: 60}, {Year: 1, Month: 1, Day: 1, Second: 60}, {Year: 1, Month: 1, Day: -1}, {Year: 1 << 60, Month: 1, Day: 1}, {Year: 5, Month: 1, Day: 1, Hour: -1}} {
		if _, e := Time(d); e != api.ErrInvalid || Valid(d) {
			t.Errorf("%v is a date", d)
		}
	}
	if !Valid(api.Date{Year: 2000, Month: 2, Day: 29, Hour: 23, Minute: 59, Second: 59}) {
		t.Error("Valid")
	}
	for _, n := range []int{first - 1, last + 1, -1 << 63, 1<<63 - 1} {
		_, e := Date(n)
		_, e2 := Weekday(n)
		_, e3 := Yearday(n)
		_, _, e4 := Week(n)
		_, e5 := Add(n, 0, "?")
		_, e6 := Between(0, n, "?")
		_, e7 := Start(n, "?")
		_, e8 := Write(n, "%")
		_, e9 := Next(n, "?")
		for i, e := range []api.Errno{e, e2, e3, e4, e5, e6, e7, e8, e9} {
			if e != api.ErrRange {
				t.Errorf("call %d of %d: %d", i, n, e)
			}
		}
	}
	for _, y := range []int{0, 10000, -1} {
		_, e := Leap(y)
		_, e2 := Days(y, 1)
		_, e3 := Easter(y)
		_, e4 := OfWeek(y, 1, 1)
		if e != 7 || e2 != 7 || e3 != 7 || e4 != 7 {
			t.Errorf("the year %d", y)
		}
	}
	for _, c := range [][3]int{{2000, 2, 29}, {1900, 2, 28}, {2004, 2, 29}, {2001, 4, 30}, {2001, 12, 31}, {2001, 0, 0}, {2001, 13, 0}} {
		if n, _ := Days(c[0], c[1]); n != c[2] {
			t.Errorf("Days(%d, %d) = %d", c[0], c[1], n)
		}
	}
	if l, _ := Leap(1900); l {
		t.Error("Leap")
	}
	for _, c := range [][3]int{{2021, 53, 1}, {2020, 54, 1}, {2020, 0, 1}, {2020, 1, 0}, {2020, 1, 8}, {9999, 52, 6}} {
		if n, e := OfWeek(c[0], c[1], c[2]); e != api.ErrRange || n != 0 {
			t.Errorf("OfWeek(%v) = %d, %d", c, n, e)
		}
	}
	if n, e := OfWeek(2020, 53, 7); n != of(2021, 1, 3) || e != 0 {
		t.Errorf("OfWeek = %d, %d", n, e)
	}
	if n, _ := Easter(2000); n != of(2000, 4, 23) {
		t.Errorf("Easter = %d", n)
	}
	for y := 1; y <= 9999; y++ {
		n, _ := Easter(y)
		d := at(n)
		if w, _ := Weekday(n); w != 7 || d.Year != y || d.Month*100+d.Day < 322 || d.Month*100+d.Day > 425 {
			t.Fatalf("Easter of %d: %v", y, d)
		}
	}
	for y, md := range map[int]int{2024: 331, 2025: 420, 1818: 322, 1943: 425, 1954: 418, 1981: 419} {
		if n, _ := Easter(y); at(n).Month*100+at(n).Day != md {
			t.Errorf("Easter of %d", y)
		}
	}
}

func TestUnits(t *testing.T) {
	for _, c := range []struct {
		time, n int
		unit    string
		want    int
		e       api.Errno
	}{{of(2000, 1, 31), 1, "month", of(2000, 2, 29), 0}, {of(2000, 2, 29), 1, "year", of(2001, 2, 28), 0}, {of(2000, 3, 31), -1, "month", of(2000, 2, 29), 0}, {0, 2, "week", 14 * day, 0}, {0, -1, "second", -1, 0}, {of(2000, 12, 5), 2, "month", of(2001, 2, 5), 0}, {last, 1, "second", 0, 7}, {first, -1, "month", 0, 7}, {0, 1 << 62, "year", 0, 7}, {0, -1 << 63, "week", 0, 7}, {0, 1 << 62, "second", 0, 7}, {0, 1, "Day", 0, 5}, {first, 0, "year", first, 0}, {0, 8030, "year", 0, 7}} {
		if n, e := Add(c.time, c.n, c.unit); n != c.want || e != c.e {
			t.Errorf("Add(%d, %d, %s) = %d, %d", c.time, c.n, c.unit, n, e)
		}
	}
	for _, c := range []struct {
		a, b int
		unit string
		want int
	}{{of(2001, 1, 31), of(2001, 2, 28), "month", 1}, {of(2001, 1, 31), of(2001, 2, 27), "month", 0}, {of(2001, 2, 28), of(2001, 1, 31), "month", -1}, {0, 59, "minute", 0}, {0, -60, "minute", -1}, {first, last, "year", 9998}, {first, last, "month", 119987}} {
		if n, e := Between(c.a, c.b, c.unit); n != c.want || e != api.OK {
			t.Errorf("Between(%d, %d, %s) = %d, %d", c.a, c.b, c.unit, n, e)
		}
	}
	if _, e := Between(0, 1, "x"); e != api.ErrName {
		t.Error("Between of no unit")
	}
	if _, e := Start(0, ""); e != api.ErrName {
		t.Error("Start of no unit")
	}
	if n, _ := Start(of(2000, 2, 29)+5, "week"); n != of(2000, 2, 28) {
		t.Error("Start of a week")
	}
}

func TestForms(t *testing.T) {
	n := of(2000, 2, 29)
	for form, want := range map[string]string{"%Y-%m-%dT%T": "2000-02-29T00:00:00", "%y %e %I%p %j %u %G %V": "00 29 12AM 060 2 2000 09", "%B %b %A %a %s %D%%x": "February Feb Tuesday Tue 951782400 02/29/2000%x", "": ""} {
		if s, e := Write(n, form); s != want || e != 0 {
			t.Errorf("Write(%q) = %q, %d", form, s, e)
		}
	}
	for _, form := range []string{"%", "a%", "%q", "%h"} {
		if _, e := Write(n, form); e != api.ErrSyntax {
			t.Errorf("Write(%q)", form)
		}
		if _, e := Read("", form); e != api.ErrSyntax {
			t.Errorf("Read by %q", form)
		}
	}
	for _, c := range []struct {
		s, form string
		want    int
		e       api.Errno
	}{
		{"", "", 0, 0}, {"2000", "%Y", of(2000, 1, 1), 0}, {"68", "%y", of(2068, 1, 1), 0}, {"69", "%y", of(1969, 1, 1), 0}, {"060", "%j", of(1970, 3, 1), 0}, {"366 2000", "%j %Y", of(2000, 12, 31), 0}, {"366 2001", "%j %Y", 0, 7}, {"000", "%j", 0, 7}, {"12 pm", "%I %p", 12 * 3600, 0}, {"12", "%I", 0, 0}, {"12AM", "%I%p", 0, 0}, {"00", "%I", 0, 7}, {"13", "%I", 0, 7}, {"13 13", "%H %I", 0, 9}, {"13 01", "%H %I", 13 * 3600, 0}, {"PM", "%p", 0, 9}, {"am", "%p", 0, 0},
		{"feb MARCH", "%b %B", 0, 9}, {"feb 02", "%b %m", of(1970, 2, 1), 0}, {"5", "%e", 4 * day, 0}, {"05", "%e", 0, 2}, {"15", "%e", 14 * day, 0}, {"0", "%e", 0, 7}, {"15 16", "%d %e", 0, 9}, {"thursday", "%A", 0, 0}, {"fri", "%a", 0, 9}, {"4 1970 01", "%u %G %V", 0, 0}, {"1971", "%G", 0, 9}, {"9", "%u", 0, 9},
		{"-5", "%s", -5, 0}, {"-0", "%s", 0, 2}, {"007", "%s", 0, 2}, {"0", "%s", 0, 0}, {"99999999999999999999999", "%s", 0, 7}, {"-62135596801", "%s", 0, 7}, {"5 06", "%s %S", 0, 9}, {"-", "%s", 0, 2}, {"13", "%m", 0, 7}, {"24", "%H", 0, 7}, {"0000", "%Y", 0, 7}, {"99", "%Y", 0, 2}, {"2001x", "%Y", 0, 2}, {"2001", "%Yx", 0, 2}, {"0102", "%m%m", 0, 2}, {"01/02/2000 01", "%D %m", 0, 2}, {"02/30/2000", "%D", 0, 7}, {"%%", "%%%%", 0, 0}, {"1970 70", "%Y %y", 0, 0}, {"1970 71", "%Y %y", 0, 9}, {"060 03", "%j %m", of(1970, 3, 1), 0}, {"060 02", "%j %m", 0, 9},
	} {
		if n, e := Read(c.s, c.form); n != c.want || e != c.e {
			t.Errorf("Read(%q, %q) = %d, %d, not %d, %d", c.s, c.form, n, e, c.want, c.e)
		}
	}
}

func TestNext(t *testing.T) {
	for _, c := range []struct {
		time int
		rule string
		want int
		e    api.Errno
	}{
		{0, "* * * * *", 60, 0}, {59, "* * * * *", 60, 0}, {-1, "0 0 * * *", 0, 0}, {0, "0 0 * * *", day, 0}, {0, "0 0 29 2 *", of(1972, 2, 29), 0}, {0, "30 12 * * 7", of(1970, 1, 4) + 12*3600 + 1800, 0}, {0, "*/20 5-6,8 * * *", 5 * 3600, 0}, {5*3600 + 1, "*/20 5-6,8 * * *", 5*3600 + 1200, 0}, {0, "0 0 */7 * *", of(1970, 1, 7), 0}, {0, "0 0 30 2 *", 0, 8}, {0, "0 0 */40 * *", 0, 8}, {last, "* * * * *", 0, 8}, {last - 60, "* * * * *", last - 59, 0}, {first, "0 0 1 1 1", of(7, 1, 1), 0},
		{0, "* * * *", 0, 2}, {0, "* * * * * *", 0, 2}, {0, " * * * * *", 0, 2}, {0, "60 * * * *", 0, 2}, {0, "* 24 * * *", 0, 2}, {0, "* * 0 * *", 0, 2}, {0, "* * * 13 *", 0, 2}, {0, "* * * * 0", 0, 2}, {0, "5-4 * * * *", 0, 2}, {0, "*/0 * * * *", 0, 2}, {0, "*/60 * * * *", 0, 2}, {0, "01 * * * *", 0, 2}, {0, "1, * * * *", 0, 2}, {0, "*,1 * * * *", 0, 2}, {0, "+1 * * * *", 0, 2}, {0, "1-2-3 * * * *", 0, 2},
	} {
		n, e := Next(c.time, c.rule)
		if n != c.want || e != c.e {
			t.Errorf("Next(%d, %q) = %d, %d, not %d, %d", c.time, c.rule, n, e, c.want, c.e)
		}
	}
}
