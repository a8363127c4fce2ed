package clock

import (
	"iter"
	"strconv"
	"strings"

	"threadbare/api"
)

// values are the numbers that a field of a rule lets through.
type values [60]bool

var lowest = [...]int{0, 0, 1, 1, 1}

var highest = [...]int{59, 23, 31, 12, 7}

// small reads a number of one or two digits between two others.
func small(s string, from, to int) (int, bool) {
	if digits(s) != len(s) || len(s) < 1 || len(s) > 2 || len(s) == 2 && s[0] == '0' {
		return 0, false
	}
	n, _ := strconv.Atoi(s)
	return n, n >= from && n <= to
}

func readField(s string, from, to int) (v values, ok bool) {
	every, multiples := strings.CutPrefix(s, "*/")
	if s == "*" {
		every, multiples = "1", true
	}
	if multiples {
		n, ok := small(every, 1, 59)
		for i := from; ok && i <= to; i++ {
			v[i] = i%n == 0
		}
		return v, ok
	}
	for _, item := range strings.Split(s, ",") {
		first, last, ranged := strings.Cut(item, "-")
		if !ranged {
			last = first
		}
		a, ok1 := small(first, from, to)
		b, ok2 := small(last, from, to)
		if !ok1 || !ok2 || a > b {
			return values{}, false
		}
		for i := a; i <= b; i++ {
			v[i] = true
		}
	}
	return v, true
}

// rule is the values of minute, hour, day, month and weekday.
type rule [5]values

func readRule(s string) (r rule, ok bool) {
	l := strings.Split(s, " ")
	if len(l) != len(r) {
		return r, false
	}
	for i := range r {
		if r[i], ok = readField(l[i], lowest[i], highest[i]); !ok {
			return rule{}, false
		}
	}
	return r, true
}

// daysFrom gives the beginnings of the days that fit a rule, from that of a date on.
func (r *rule) daysFrom(first api.Date) iter.Seq[int] {
	return func(yield func(int) bool) {
		for year := first.Year; year <= lastYear; year++ {
			for month := 1; month <= 12; month++ {
				if !r[3][month] || year == first.Year && month < first.Month {
					continue
				}
				for d := 1; d <= daysOf(year, month); d++ {
					t := timeOf(api.Date{Year: year, Month: month, Day: d})
					if r[2][d] && r[4][weekday(t)] && !yield(t) {
						return
					}
				}
			}
		}
	}
}

// Next returns the least time greater than the given one that fits a rule.
func Next(time int, form string) (int, api.Errno) {
	if !isTime(time) {
		return 0, api.ErrRange
	}
	r, ok := readRule(form)
	if !ok {
		return 0, api.ErrSyntax
	}
	for start := range r.daysFrom(dateOf(time)) {
		for minute := range 24 * 60 {
			t := start + minute*60
			if t > time && r[1][minute/60] && r[0][minute%60] {
				return t, api.OK
			}
		}
	}
	return 0, api.ErrNone
}
