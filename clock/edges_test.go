package clock

import (
	"strings"
	"testing"
	"time"

	"threadbare/api"
)

func unix(y, m, d, h, min, s int) int {
	return int(time.Date(y, time.Month(m), d, h, min, s, 0, time.UTC).Unix())
}

func TestDaysOfAllMonths(t *testing.T) {
	for _, y := range []int{1, 4, 100, 400, 1582, 1700, 1900, 1999, 2000, 2001, 2004, 2100, 9996, 9999} {
		leap, e := Leap(y)
		if want := time.Date(y, 12, 31, 0, 0, 0, 0, time.UTC).YearDay() == 366; leap != want || e != api.OK {
			t.Errorf("Leap(%d) = %t", y, leap)
		}
		for m := 1; m <= 12; m++ {
			want := time.Date(y, time.Month(m)+1, 0, 0, 0, 0, 0, time.UTC).Day()
			n, e := Days(y, m)
			if n != want || e != api.OK {
				t.Errorf("Days(%d, %d) = %d, %d", y, m, n, e)
			}
			for d := 0; d <= 32; d++ {
				date := api.Date{Year: y, Month: m, Day: d, Hour: 23, Minute: 59, Second: 59}
				if Valid(date) != (d >= 1 && d <= want) {
					t.Errorf("Valid(%v)", date)
				}
			}
		}
	}
	ok := api.Date{Year: 2001, Month: 2, Day: 3}
	for _, change := range []func(d *api.Date){func(d *api.Date) { d.Month = 0 }, func(d *api.Date) { d.Month = 13 }, func(d *api.Date) { d.Month = -1 }, func(d *api.Date) { d.Year = 0 }, func(d *api.Date) { d.Year = 10000 }, func(d *api.Date) { d.Hour = 24 }, func(d *api.Date) { d.Hour = -1 }, func(d *api.Date) { d.Minute = 60 }, func(d *api.Date) { d.Minute = -1 }, func(d *api.Date) { d.Second = 60 }, func(d *api.Date) { d.Second = -1 }} {
		d := ok
		change(&d)
		if _, e := Time(d); Valid(d) || e != api.ErrInvalid {
			t.Errorf("%v is a date", d)
		}
	}
}

func TestNamesOfAll(t *testing.T) {
	kit := map[string]string{"%Y": "2006", "%y": "06", "%m": "01", "%d": "02", "%e": "2", "%H": "15", "%I": "03", "%p": "PM", "%M": "04", "%S": "05", "%j": "002", "%B": "January", "%b": "Jan", "%A": "Monday", "%a": "Mon", "%D": "01/02/2006", "%T": "15:04:05"}
	for day := range 400 {
		n := unix(2003, 12, 20+day, day%24, day%60, 59-day%60)
		at := time.Unix(int64(n), 0).UTC()
		for letter, layout := range kit {
			if s, e := Write(n, letter); s != at.Format(layout) || e != api.OK {
				t.Fatalf("%s of %v: %q, %d", letter, at, s, e)
			}
		}
		for _, form := range []string{"%Y %B %d %H:%M:%S", "%S.%M.%H %e %b %Y", "%j|%Y|%T", "%A %a %u %Y-%m-%d %I%p %M %S", "%s", "%D %T %G %V %y", "%d%m%Y%H%M%S"} {
			s, _ := Write(n, form)
			for _, text := range []string{s, strings.ToUpper(s), strings.ToLower(s)} {
				if back, e := Read(text, form); back != n || e != api.OK {
					t.Fatalf("Read(%q, %q) = %d, %d, not %d", text, form, back, e, n)
				}
			}
			if _, e := Read(s+"x", form); e != api.ErrSyntax {
				t.Fatalf("Read of %q and more: %d", s, e)
			}
			if _, e := Read(s, form+"x"); e != api.ErrSyntax {
				t.Fatalf("Read of %q by more: %d", s, e)
			}
		}
	}
	for c := range 128 {
		letter := string([]byte{byte(c)})
		known := strings.Contains("YymdHMSeIpjuGVBbAasDT%", letter)
		if _, e := Write(0, "%"+letter); (e == api.OK) != known {
			t.Errorf("%%%s: %d", letter, e)
		}
		if letter == "%" || !known {
			continue
		}
		s, _ := Write(0, "%"+letter+" %"+letter)
		if _, e := Read(s, "%"+letter+" %"+letter); e != api.ErrSyntax {
			t.Errorf("%%%s twice: %d", letter, e)
		}
	}
}

func TestReadParts(t *testing.T) {
	for _, c := range []struct {
		s, form string
		want    int
		e       api.Errno
	}{
		{"00", "%H", 0, 0}, {"23", "%H", 23 * 3600, 0}, {"24", "%H", 0, 7}, {"59", "%M", 59 * 60, 0}, {"60", "%M", 0, 7}, {"59", "%S", 59, 0}, {"60", "%S", 0, 7}, {"00", "%d", 0, 7}, {"31", "%d", 30 * 86400, 0}, {"32", "%d", 0, 7}, {"00", "%m", 0, 7}, {"12", "%m", unix(1970, 12, 1, 0, 0, 0), 0}, {"13", "%m", 0, 7},
		{"01", "%I", 3600, 0}, {"12", "%I", 0, 0}, {"12 AM", "%I %p", 0, 0}, {"12 PM", "%I %p", 12 * 3600, 0}, {"01 PM", "%I %p", 13 * 3600, 0}, {"11 PM", "%I %p", 23 * 3600, 0}, {"13 PM", "%I %p", 0, 7}, {"00 AM", "%I %p", 0, 7}, {"AM", "%p", 0, 0}, {"PM", "%p", 0, 9}, {"13 PM", "%H %p", 13 * 3600, 0}, {"13 AM", "%H %p", 0, 9}, {"13 02", "%H %I", 0, 9}, {"00 12", "%H %I", 0, 0},
		{"69", "%y", unix(1969, 1, 1, 0, 0, 0), 0}, {"68", "%y", unix(2068, 1, 1, 0, 0, 0), 0}, {"00", "%y", unix(2000, 1, 1, 0, 0, 0), 0}, {"99", "%y", unix(1999, 1, 1, 0, 0, 0), 0}, {"1869 69", "%Y %y", unix(1869, 1, 1, 0, 0, 0), 0}, {"1869 70", "%Y %y", 0, 9},
		{"001", "%j", 0, 0}, {"365", "%j", 364 * 86400, 0}, {"366", "%j", 0, 7}, {"366 2000", "%j %Y", unix(2000, 12, 31, 0, 0, 0), 0}, {"000", "%j", 0, 7}, {"032 02", "%j %m", 31 * 86400, 0}, {"032 01", "%j %m", 0, 9}, {"032 01", "%j %d", 31 * 86400, 0}, {"032 02", "%j %d", 0, 9}, {"366 9999", "%j %Y", 0, 7}, {"365 9999", "%j %Y", unix(9999, 12, 31, 0, 0, 0), 0},
		{"march", "%B", unix(1970, 3, 1, 0, 0, 0), 0}, {"mar", "%b", unix(1970, 3, 1, 0, 0, 0), 0}, {"marc", "%B", 0, 2}, {"03 mar", "%m %b", unix(1970, 3, 1, 0, 0, 0), 0}, {"03 apr", "%m %b", 0, 9}, {"may June", "%b %B", 0, 9}, {"JUNE jun", "%B %b", unix(1970, 6, 1, 0, 0, 0), 0}, {"thu", "%a", 0, 0}, {"Thursday", "%A", 0, 0}, {"thurs", "%a", 0, 2}, {"4", "%u", 0, 0}, {"5", "%u", 0, 9}, {"1970 01", "%G %V", 0, 0}, {"1970 02", "%G %V", 0, 9},
		{"3 03", "%e %d", 2 * 86400, 0}, {"3 04", "%e %d", 0, 9}, {"31", "%e", 30 * 86400, 0}, {"311", "%e", 0, 2}, {"1a", "%ea", 0, 0}, {"09", "%e9", 0, 7}, {"x", "%e", 0, 2}, {"0", "%s", 0, 0}, {"-1", "%s", -1, 0}, {"01", "%s", 0, 2}, {"-0", "%s", 0, 2}, {"-01", "%s", 0, 2}, {"+1", "%s", 0, 2}, {"", "%s", 0, 2}, {"-62135596800", "%s", -62135596800, 0}, {"-62135596801", "%s", 0, 7}, {"253402300799", "%s", 253402300799, 0}, {"253402300800", "%s", 0, 7}, {"0 1970", "%s %Y", 0, 0}, {"0 1971", "%s %Y", 0, 9}, {"0 13", "%s %m", 0, 9},
		{"1", "%m", 0, 2}, {"200", "%Y", 0, 2}, {"20000", "%Y", 0, 2}, {"0001", "%Y", unix(1, 1, 1, 0, 0, 0), 0}, {"0000", "%Y", 0, 7}, {"01/02/2003", "%D", unix(2003, 1, 2, 0, 0, 0), 0}, {"01/02/2003 2003", "%D %Y", 0, 2}, {"01:02:03", "%T", 3723, 0}, {"01:02:03 01", "%T %H", 0, 2}, {"02/29/2001", "%D", 0, 7}, {"a%", "a%%", 0, 0}, {"a", "a%", 0, 2}, {"", "%q", 0, 2},
	} {
		n, e := Read(c.s, c.form)
		if n != c.want || e != c.e {
			t.Errorf("Read(%q, %q) = %d, %d, not %d, %d", c.s, c.form, n, e, c.want, c.e)
		}
	}
}

func TestWeeksByTheKit(t *testing.T) {
	for y := 1; y <= 9999; y += 1 + y%7 {
		last := 52
		if _, w := time.Date(y, 12, 28, 0, 0, 0, 0, time.UTC).ISOWeek(); w == 53 {
			last = 53
		}
		for _, number := range []int{0, 1, 2, 26, 52, 53, 54} {
			for wd := 0; wd <= 8; wd++ {
				n, e := OfWeek(y, number, wd)
				if number < 1 || number > last || wd < 1 || wd > 7 {
					if n != 0 || e != api.ErrRange {
						t.Fatalf("OfWeek(%d, %d, %d) = %d, %d", y, number, wd, n, e)
					}
					continue
				}
				if e == api.ErrRange && y == 9999 && number == 52 {
					continue // its end lies behind all years
				}
				gy, gw := time.Unix(int64(n), 0).UTC().ISOWeek()
				day := (int(time.Unix(int64(n), 0).UTC().Weekday())+6)%7 + 1
				if gy != y || gw != number || day != wd || n%86400 != 0 || e != api.OK {
					t.Fatalf("OfWeek(%d, %d, %d) = %d, %d", y, number, wd, n, e)
				}
			}
		}
	}
	for wd, want := range map[int]api.Errno{5: api.OK, 6: api.ErrRange, 7: api.ErrRange} {
		if _, e := OfWeek(9999, 52, wd); e != want {
			t.Errorf("the weekday %d of the last week: %d", wd, e)
		}
	}
}

func TestNextByTheKit(t *testing.T) {
	for _, c := range []struct {
		from, want int
		rule       string
	}{
		{unix(2000, 1, 1, 0, 0, 0), unix(2000, 1, 1, 0, 1, 0), "* * * * *"}, {unix(2000, 1, 1, 0, 0, 59), unix(2000, 1, 1, 0, 1, 0), "* * * * *"}, {unix(2000, 12, 31, 23, 59, 0), unix(2001, 1, 1, 0, 0, 0), "* * * * *"}, {unix(2000, 1, 31, 23, 59, 30), unix(2000, 2, 1, 0, 0, 0), "0 0 * * *"}, {unix(2000, 1, 1, 0, 0, 0), unix(2000, 1, 1, 0, 15, 0), "*/15 * * * *"}, {unix(2000, 1, 1, 0, 45, 0), unix(2000, 1, 1, 1, 0, 0), "*/15 * * * *"}, {unix(2000, 1, 1, 0, 0, 0), unix(2000, 1, 1, 0, 59, 0), "*/59 * * * *"}, {unix(2000, 1, 1, 0, 0, 0), unix(2000, 2, 29, 12, 30, 0), "30 12 29 2 *"}, {unix(2000, 3, 1, 0, 0, 0), unix(2004, 2, 29, 12, 30, 0), "30 12 29 2 *"}, {unix(2000, 1, 1, 0, 0, 0), unix(2000, 1, 3, 0, 0, 0), "0 0 * * 1"}, {unix(2000, 1, 1, 0, 0, 0), unix(2000, 1, 2, 0, 0, 0), "0 0 * * 7"}, {unix(2000, 1, 1, 0, 0, 0), unix(2000, 10, 13, 0, 0, 0), "0 0 13 * 5"}, {unix(2000, 1, 1, 0, 0, 0), unix(2000, 1, 1, 5, 10, 0), "10-12,40 5,7-8 * * *"}, {unix(2000, 1, 1, 5, 12, 0), unix(2000, 1, 1, 5, 40, 0), "10-12,40 5,7-8 * * *"}, {unix(2000, 1, 1, 5, 40, 0), unix(2000, 1, 1, 7, 10, 0), "10-12,40 5,7-8 * * *"}, {unix(2000, 1, 1, 8, 40, 0), unix(2000, 1, 2, 5, 10, 0), "10-12,40 5,7-8 * * *"}, {unix(2000, 1, 1, 0, 0, 0), unix(2000, 1, 31, 0, 0, 0), "0 0 */31 * *"}, {unix(2000, 1, 1, 0, 0, 0), unix(2000, 5, 1, 0, 0, 0), "0 0 1 */5 *"}, {unix(2000, 1, 1, 0, 0, 0), unix(2000, 1, 1, 23, 0, 0), "0 23 * * *"}, {-62135596800, -62135596800 + 60, "* * * * *"}, {unix(9999, 12, 31, 23, 58, 59), unix(9999, 12, 31, 23, 59, 0), "59 23 31 12 *"}, {-61, -60, "* * * * *"}, {-60, 0, "* * * * *"},
	} {
		if n, e := Next(c.from, c.rule); n != c.want || e != api.OK {
			t.Errorf("Next(%d, %q) = %d, %d, not %d", c.from, c.rule, n, e, c.want)
		}
	}
	for _, rule := range []string{"", "*", "* * * *", "* * * * * *", "*  * * * *", " * * * * *", "* * * * * ", "60 * * * *", "* 24 * * *", "* * 32 * *", "* * 0 * *", "* * * 13 *", "* * * 0 *", "* * * * 8", "* * * * 0", "01 * * * *", "1- * * * *", "-1 * * * *", "3-1 * * * *", "1,,2 * * * *", ",1 * * * *", "1, * * * *", "*/0 * * * *", "*/60 * * * *", "*/ * * * *", "*/01 * * * *", "** * * * *", "*,1 * * * *", "1-2-3 * * * *", "1/2 * * * *", "a * * * *", "100 * * * *", "+1 * * * *"} {
		if n, e := Next(0, rule); n != 0 || e != api.ErrSyntax {
			t.Errorf("Next by %q = %d, %d", rule, n, e)
		}
	}
	for _, rule := range []string{"0 0 31 2 *", "0 0 31 4,6,9,11 *", "0 0 */32 * *", "0 0 * */13 *", "0 0 * * */8"} {
		if n, e := Next(0, rule); n != 0 || e != api.ErrNone {
			t.Errorf("Next by %q = %d, %d", rule, n, e)
		}
	}
	for c, want := range map[string]int{"*/59": 59, "*/1": 1, "0": 60, "59": 59} {
		if n, _ := Next(0, c+" * * * *"); n != want*60 {
			t.Errorf("Next by the minute %s = %d", c, n)
		}
	}
}
