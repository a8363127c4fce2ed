package clock

import (
	"math/rand"
	"strings"
	"testing"
	"time"

	"threadbare/api"
)

type result struct {
	n int
	e api.Errno
}

func of(n int, e api.Errno) result { return result{n, e} }

func at(t *testing.T, s string) int {
	t.Helper()
	x, e := time.Parse("2006-01-02 15:04:05", s)
	if e != nil {
		t.Fatal(e)
	}
	return int(x.Unix())
}

// 11.1: held against Go's own calendar
func TestCalendar(t *testing.T) {
	r := rand.New(rand.NewSource(3))
	for range 20000 {
		n := firstTime + int(r.Int63n(lastTime-firstTime+1))
		x := time.Unix(int64(n), 0).UTC()
		d, e := Date(n)
		if e != 0 || d != (api.Date{Year: x.Year(), Month: int(x.Month()), Day: x.Day(), Hour: x.Hour(), Minute: x.Minute(), Second: x.Second()}) || !Valid(d) {
			t.Fatalf("Date(%d) = %v", n, d)
		}
		if of(Time(d)) != of(n, 0) || of(Weekday(n)) != of((int(x.Weekday())+6)%7+1, 0) || of(Yearday(n)) != of(x.YearDay(), 0) {
			t.Fatalf("of %d", n)
		}
		year, number, e := Week(n)
		y, w := x.ISOWeek()
		if y != year || w != number || e != 0 {
			t.Fatalf("Week(%d) = %d %d", n, year, number)
		}
		if back, e := OfWeek(year, number, (int(x.Weekday())+6)%7+1); e != 0 || back != n-(n-firstTime)%day {
			t.Fatalf("OfWeek of %d", n)
		}
	}
	for _, d := range []api.Date{{}, {Year: 0, Month: 1, Day: 1}, {Year: 10000, Month: 1, Day: 1}, {Year: 1, Month: 0, Day: 1}, {Year: 1, Month: 13, Day: 1}, {Year: 1, Month: 1, Day: 0}, {Year: 1900, Month: 2, Day: 29}, {Year: 1, Month: 4, Day: 31}, {Year: 1, Month: 1, Day: 1, Hour: 24}, {Year: 1, Month: 1, Day: 1, Minute: 60}, {Year: 1, Month: 1, Day: 1, Second: 60}, {Year: 1, Month: 1, Day: 1, Second: -1}, {Year: 1, Month: 1, Day: 1 << 62}, {Year: 1, Month: -1 << 62, Day: 1}} {
		if n, e := Time(d); Valid(d) || n != 0 || e != api.ErrInvalid {
			t.Errorf("Valid(%v)", d)
		}
	}
	for _, n := range []int{firstTime - 1, lastTime + 1, 1 << 62, -1 << 63} {
		_, e1 := Date(n)
		_, e2 := Weekday(n)
		_, e3 := Yearday(n)
		_, _, e4 := Week(n)
		if e1 != api.ErrRange || e2 != api.ErrRange || e3 != api.ErrRange || e4 != api.ErrRange {
			t.Errorf("the time %d", n)
		}
	}
	if d, e := Date(lastTime); e != 0 || d.Year != 9999 || d.Second != 59 {
		t.Error("the last time")
	}
	for year, want := range map[int]bool{2000: true, 1900: false, 2004: true, 2001: false, 9999: false} {
		if l, e := Leap(year); l != want || e != 0 {
			t.Errorf("Leap(%d)", year)
		}
	}
	for _, year := range []int{0, 10000} {
		_, e1 := Leap(year)
		_, e2 := Days(year, 1)
		_, e3 := OfWeek(year, 1, 1)
		_, e4 := Easter(year)
		if e1 != api.ErrRange || e2 != api.ErrRange || e3 != api.ErrRange || e4 != api.ErrRange {
			t.Errorf("the year %d", year)
		}
	}
	for i, want := range []int{31, 29, 31, 30, 31, 30, 31, 31, 30, 31, 30, 31} {
		if of(Days(2000, i+1)) != of(want, 0) {
			t.Errorf("Days(2000, %d)", i+1)
		}
	}
	for _, c := range [][3]int{{2000, 53, 1}, {2000, 0, 1}, {2000, 1, 0}, {2000, 1, 8}, {9999, 52, 7}, {9999, 53, 1}, {2000, 54, 1}} {
		if of(OfWeek(c[0], c[1], c[2])) != of(0, api.ErrRange) {
			t.Errorf("OfWeek%v", c)
		}
	}
	if of(OfWeek(2004, 53, 7)) != of(at(t, "2005-01-02 00:00:00"), 0) || of(OfWeek(1, 1, 1)) != of(firstTime, 0) || of(OfWeek(9999, 52, 5)) != of(lastTime+1-day, 0) {
		t.Error("OfWeek")
	}
	if _, e := Days(2000, 13); e != api.ErrRange {
		t.Error("Days of no month")
	}
}

// 11.2
func TestUnits(t *testing.T) {
	for _, c := range []struct {
		from string
		n    int
		unit string
		want string
	}{
		{"2000-01-31 00:00:00", 1, "month", "2000-02-29 00:00:00"}, {"2000-03-31 12:00:01", -1, "month", "2000-02-29 12:00:01"}, {"2000-02-29 00:00:00", 1, "year", "2001-02-28 00:00:00"}, {"2000-12-31 23:59:59", 1, "second", "2001-01-01 00:00:00"}, {"2000-01-01 00:00:00", -1, "minute", "1999-12-31 23:59:00"}, {"2000-01-01 00:00:00", 25, "hour", "2000-01-02 01:00:00"}, {"2000-02-28 00:00:00", 2, "day", "2000-03-01 00:00:00"}, {"2000-01-01 00:00:00", 1, "week", "2000-01-08 00:00:00"}, {"2000-05-31 00:00:00", -15, "month", "1999-02-28 00:00:00"}, {"2000-01-31 00:00:00", 0, "month", "2000-01-31 00:00:00"},
	} {
		if of(Add(at(t, c.from), c.n, c.unit)) != of(at(t, c.want), 0) {
			t.Errorf("Add(%s, %d, %s)", c.from, c.n, c.unit)
		}
	}
	for _, u := range []string{"second", "minute", "hour", "day", "week", "month", "year"} {
		for _, n := range []int{1 << 62, -1 << 63, 1<<63 - 1, lastTime*2 + 1e12} {
			if of(Add(0, n, u)) != of(0, api.ErrRange) {
				t.Errorf("Add of %d %s", n, u)
			}
		}
		if of(Add(lastTime, 1, u)) != of(0, api.ErrRange) || of(Add(firstTime, -1, u)) != of(0, api.ErrRange) || of(Add(firstTime, 0, u)) != of(firstTime, 0) {
			t.Errorf("Add beyond, %s", u)
		}
	}
	for _, e := range []result{of(Add(lastTime+1, 0, "x")), of(Between(0, lastTime+1, "x")), of(Between(firstTime-1, 0, "x")), of(Start(lastTime+1, "x"))} {
		if e != of(0, api.ErrRange) {
			t.Error("ErrRange comes first")
		}
	}
	if of(Add(0, 0, "days")) != of(0, api.ErrName) || of(Between(0, 0, "")) != of(0, api.ErrName) || of(Start(0, "Day")) != of(0, api.ErrName) {
		t.Error("ErrName")
	}
	r := rand.New(rand.NewSource(4))
	for range 5000 {
		a, b := int(r.Int63n(4e9)), int(r.Int63n(4e9))
		if r.Intn(2) == 0 {
			b = a + r.Intn(100)*day
		}
		a, b = min(a, b), max(a, b)
		for _, u := range []string{"second", "minute", "hour", "day", "week", "month", "year"} {
			n, _ := Between(a, b, u)
			x, _ := Add(a, n, u)
			y, _ := Add(a, n+1, u)
			if n < 0 || x > b || y <= b || of(Between(b, a, u)) != of(-n, 0) {
				t.Fatalf("Between(%d, %d, %s) = %d", a, b, u, n)
			}
			s, _ := Start(a, u)
			if again, _ := Start(s, u); s > a || again != s || of(Between(s, a, u)) != of(0, 0) {
				t.Fatalf("Start(%d, %s) = %d", a, u, s)
			}
		}
	}
	if of(Between(at(t, "2001-01-31 00:00:00"), at(t, "2001-02-28 00:00:00"), "month")) != of(1, 0) {
		t.Error("Between of January 31 and February 28")
	}
	for unit, want := range map[string]string{"second": "2000-02-29 13:14:15", "minute": "2000-02-29 13:14:00", "hour": "2000-02-29 13:00:00", "day": "2000-02-29 00:00:00", "week": "2000-02-28 00:00:00", "month": "2000-02-01 00:00:00", "year": "2000-01-01 00:00:00"} {
		if of(Start(at(t, "2000-02-29 13:14:15"), unit)) != of(at(t, want), 0) {
			t.Errorf("Start of %s", unit)
		}
	}
	for _, s := range []string{"2000-04-23", "2024-03-31", "1961-04-02", "1818-03-22", "2038-04-25", "1954-04-18", "1981-04-19"} {
		want := at(t, s+" 00:00:00")
		d, _ := Date(want)
		if of(Easter(d.Year)) != of(want, 0) {
			t.Errorf("Easter of %d", d.Year)
		}
	}
}

// 11.3
func TestWritten(t *testing.T) {
	when := at(t, "2000-02-29 15:04:05")
	for form, want := range map[string]string{
		"%Y-%m-%dT%T": "2000-02-29T15:04:05", "%y %e %I %p %j": "00 29 03 PM 060", "%u %G %V %B %b %A %a": "2 2000 09 February Feb Tuesday Tue", "%s%%": "951836645%", "%D": "02/29/2000", "": "", "x": "x", "%H%M%S": "150405",
	} {
		if s, e := Write(when, form); s != want || e != 0 {
			t.Errorf("Write(%q) = %q, %d", form, s, e)
		}
	}
	for s, want := range map[string]string{"1999-01-01 00:00:00": "12 AM 001  1 53", "2000-01-01 12:00:00": "12 PM 001  1 52"} {
		if got, _ := Write(at(t, s), "%I %p %j  %e %V"); got != want {
			t.Errorf("Write of %s = %q", s, got)
		}
	}
	for _, form := range []string{"%", "%x", "a%"} {
		if s, e := Write(0, form); s != "" || e != api.ErrSyntax {
			t.Errorf("Write(%q)", form)
		}
		if s, e := Write(lastTime+1, form); s != "" || e != api.ErrRange {
			t.Errorf("Write(%q) of no time", form)
		}
		if _, e := Read("", form); e != api.ErrSyntax {
			t.Errorf("Read(%q)", form)
		}
	}
	for _, c := range []struct {
		s, form, want string
		e             api.Errno
	}{
		{"2000-02-29T15:04:05", "%Y-%m-%dT%T", "2000-02-29 15:04:05", 0}, {"29 feb 68", "%d %b %y", "2068-02-29 00:00:00", 0}, {"69", "%y", "1969-01-01 00:00:00", 0}, {"9 MAY 2001 03 pm", "%e %B %Y %I %p", "2001-05-09 15:00:00", 0}, {"12", "%I", "1970-01-01 00:00:00", 0}, {"12PM", "%I%p", "1970-01-01 12:00:00", 0}, {"2000 366", "%Y %j", "2000-12-31 00:00:00", 0}, {"060", "%j", "1970-03-01 00:00:00", 0}, {"-1", "%s", "1969-12-31 23:59:59", 0}, {"", "", "1970-01-01 00:00:00", 0}, {"%", "%%", "1970-01-01 00:00:00", 0}, {"%%", "%%%%", "1970-01-01 00:00:00", 0},
		{"951836645 2000 15 03 PM Tue", "%s %Y %H %I %p %a", "2000-02-29 15:04:05", 0}, {"2000 00", "%Y %y", "2000-01-01 00:00:00", 0}, {"05 5", "%d %e", "1970-01-05 00:00:00", 0}, {"12", "%e", "1970-01-12 00:00:00", 0}, {"059", "%e%y", "", api.ErrRange},
		{"1", "%H", "", api.ErrSyntax}, {"2000x", "%Y", "", api.ErrSyntax}, {"20", "%Y", "", api.ErrSyntax}, {"01 01", "%m %m", "", api.ErrSyntax}, {"01/01/2000 01", "%D %m", "", api.ErrSyntax}, {"Fe", "%b", "", api.ErrSyntax}, {"007", "%s", "", api.ErrSyntax}, {"-0", "%s", "", api.ErrSyntax}, {"-", "%s", "", api.ErrSyntax}, {"xm", "%p", "", api.ErrSyntax}, {"", "%e", "", api.ErrSyntax}, {"a", "b", "", api.ErrSyntax},
		{"13", "%m", "", api.ErrRange}, {"2001-02-29", "%Y-%m-%d", "", api.ErrRange}, {"0000", "%Y", "", api.ErrRange}, {"24", "%H", "", api.ErrRange}, {"60", "%M", "", api.ErrRange}, {"13", "%I", "", api.ErrRange}, {"00", "%I", "", api.ErrRange}, {"366", "%j", "", api.ErrRange}, {"000", "%j", "", api.ErrRange}, {"999999999999999999999", "%s", "", api.ErrRange}, {"253402300800", "%s", "", api.ErrRange}, {"0", "%e", "", api.ErrRange},
		{"2000 01", "%Y %y", "", api.ErrState}, {"01 Feb", "%m %b", "", api.ErrState}, {"05 6", "%d %e", "", api.ErrState}, {"PM", "%p", "", api.ErrState}, {"15 03 AM", "%H %I %p", "", api.ErrState}, {"2000 060 01", "%Y %j %m", "", api.ErrState}, {"Mon", "%a", "", api.ErrState}, {"0 1971", "%s %Y", "", api.ErrState}, {"9", "%u", "", api.ErrState}, {"2000-02-29 08", "%Y-%m-%d %V", "", api.ErrState}, {"2000-02-29 2001", "%Y-%m-%d %G", "", api.ErrState},
	} {
		n, e := Read(c.s, c.form)
		want := 0
		if c.want != "" {
			want = at(t, c.want)
		}
		if n != want || e != c.e {
			t.Errorf("Read(%q, %q) = %d, %d", c.s, c.form, n, e)
		}
	}
	r := rand.New(rand.NewSource(5))
	for range 3000 {
		n := firstTime + int(r.Int63n(lastTime-firstTime+1))
		for _, form := range []string{"%s", "%Y%m%d%H%M%S", "%e.%B %Y, %I:%M:%S %p", "%Y/%j %T %A %G %V %u", "%a %b %d %T %Y", "%s %y %D %p"} {
			s, _ := Write(n, form)
			if of(Read(s, form)) != of(n, 0) || of(Read(strings.ToUpper(s), form)) != of(n, 0) {
				t.Fatalf("Read(%q, %q)", s, form)
			}
		}
	}
}

// 11.4
func TestNext(t *testing.T) {
	now := at(t, "2000-02-28 23:59:30")
	for rule, want := range map[string]string{
		"* * * * *": "2000-02-29 00:00:00", "*/15 * * * *": "2000-02-29 00:00:00", "5,1-3 * * * *": "2000-02-29 00:01:00", "0 12 29 2 *": "2000-02-29 12:00:00", "0 0 29 2 1": "2016-02-29 00:00:00", "59 23 * * *": "2000-02-29 23:59:00", "0 0 1 1 *": "2001-01-01 00:00:00", "30 4 */10 3 *": "2000-03-10 04:30:00", "0 0 * * 7": "2000-03-05 00:00:00", "0 0 31 4-6,12 *": "2000-05-31 00:00:00", "0 0 * */7 *": "2000-07-01 00:00:00",
	} {
		if of(Next(now, rule)) != of(at(t, want), 0) {
			n, e := Next(now, rule)
			t.Errorf("Next(%q) = %s, %d", rule, time.Unix(int64(n), 0).UTC(), e)
		}
	}
	for _, rule := range []string{"", "* * * *", "* * * * * *", "*  * * * *", "60 * * * *", "* 24 * * *", "* * 0 * *", "* * 32 * *", "* * * 13 *", "* * * * 0", "* * * * 8", "01 * * * *", "*/0 * * * *", "*/60 * * * *", "*/05 * * * *", "5-3 * * * *", "1, * * * *", "-1 * * * *", "1-2-3 * * * *", "x * * * *", "*/ * * * *", "*,1 * * * *", "1-* * * * *"} {
		if of(Next(0, rule)) != of(0, api.ErrSyntax) || of(Next(lastTime+1, rule)) != of(0, api.ErrRange) {
			t.Errorf("Next(%q)", rule)
		}
	}
	for _, rule := range []string{"0 0 30 2 *", "* * */40 * *", "* * * */13 *"} {
		if of(Next(firstTime, rule)) != of(0, api.ErrNone) {
			t.Errorf("Next(%q)", rule)
		}
	}
	if of(Next(lastTime, "* * * * *")) != of(0, api.ErrNone) || of(Next(lastTime-60, "* * * * *")) != of(lastTime-59, 0) || of(Next(60, "1,2 0 1 1 *")) != of(120, 0) {
		t.Error("Next at the end")
	}
}
