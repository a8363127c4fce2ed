package clock

import "threadbare/api"

// The units.
const (
	seconds = iota
	minutes
	hours
	days
	weeks
	months
	years
	units
)

func unitOf(name string) (int, bool) {
	for i, s := range []string{"second", "minute", "hour", "day", "week", "month", "year"} {
		if s == name {
			return i, true
		}
	}
	return 0, false
}

// lengths are the seconds of the units that have always as many.
var lengths = [...]int{seconds: 1, minutes: 60, hours: 3600, days: day, weeks: 7 * day}

// starts tells for each unit the beginning of the one in which a time lies.
func starts() [units]func(t int) int {
	whole := func(unit int) func(t int) int {
		return func(t int) int { return floor(t, lengths[unit]) * lengths[unit] }
	}
	return [units]func(t int) int{
		seconds: whole(seconds),
		minutes: whole(minutes),
		hours:   whole(hours),
		days:    whole(days),
		weeks:   func(t int) int { return floor(t, day)*day - (weekday(t)-1)*day },
		months: func(t int) int {
			d := dateOf(t)
			return timeOf(api.Date{Year: d.Year, Month: d.Month, Day: 1})
		},
		years: func(t int) int { return timeOf(api.Date{Year: dateOf(t).Year, Month: 1, Day: 1}) },
	}
}

// add adds units; false if the result is no time.
func add(t, n, unit int) (int, bool) {
	if unit < months {
		if n > lastTime-firstTime || n < firstTime-lastTime {
			return 0, false
		}
		t += n * lengths[unit]
		return t, isTime(t)
	}
	if n > 12*lastYear || n < -12*lastYear {
		return 0, false
	}
	if unit == years {
		n *= 12
	}
	d := dateOf(t)
	n += d.Year*12 + d.Month - 1
	d.Year, d.Month = floor(n, 12), n-floor(n, 12)*12+1
	if !isYear(d.Year) {
		return 0, false
	}
	d.Day = min(d.Day, daysOf(d.Year, d.Month))
	return timeOf(d), true
}

// Add adds n units.
func Add(time, n int, unit string) (int, api.Errno) {
	u, ok := unitOf(unit)
	switch {
	case !isTime(time):
		return 0, api.ErrRange
	case !ok:
		return 0, api.ErrName
	}
	t, ok := add(time, n, u)
	if !ok {
		return 0, api.ErrRange
	}
	return t, api.OK
}

func between(a, b, unit int) int {
	if unit < months {
		return (b - a) / lengths[unit]
	}
	from, to := dateOf(a), dateOf(b)
	n := to.Year - from.Year
	if unit == months {
		n = n*12 + to.Month - from.Month
	}
	// The date in the same month, or year, is at most one unit too late.
	if t, ok := add(a, n, unit); !ok || t > b {
		n--
	}
	return n
}

// Between returns how many whole units lie from a to b.
func Between(a, b int, unit string) (int, api.Errno) {
	u, ok := unitOf(unit)
	switch {
	case !isTime(a) || !isTime(b):
		return 0, api.ErrRange
	case !ok:
		return 0, api.ErrName
	case a > b:
		return -between(b, a, u), api.OK
	}
	return between(a, b, u), api.OK
}

// Start returns the beginning of the unit in which a time lies.
func Start(time int, unit string) (int, api.Errno) {
	u, ok := unitOf(unit)
	switch {
	case !isTime(time):
		return 0, api.ErrRange
	case !ok:
		return 0, api.ErrName
	}
	return starts()[u](time), api.OK
}
