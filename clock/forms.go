package clock

import (
	"strconv"
	"strings"

	"threadbare/api"
	"threadbare/text"
)

// letter says how a letter of a form writes a time, and how many bytes of a text it reads; -1 for none.
type letter struct {
	write func(t int) string
	read  func(s string) int
}

func monthNames() []string {
	return []string{"January", "February", "March", "April", "May", "June", "July", "August", "September", "October", "November", "December"}
}

func dayNames() []string {
	return []string{"Monday", "Tuesday", "Wednesday", "Thursday", "Friday", "Saturday", "Sunday"}
}

func short(names []string) []string {
	for i := range names {
		names[i] = names[i][:3]
	}
	return names
}

func digits(s string) int {
	n := 0
	for n < len(s) && s[n] >= '0' && s[n] <= '9' {
		n++
	}
	return n
}

func padded(n, width int) string {
	s := strconv.Itoa(n)
	return strings.Repeat("0", max(width-len(s), 0)) + s
}

// number is a letter of just so many digits.
func number(width int, of func(t int) int) letter {
	return letter{
		write: func(t int) string { return padded(of(t), width) },
		read: func(s string) int {
			if digits(s) < width {
				return -1
			}
			return width
		},
	}
}

// named is a letter of names, told by a number from 1 on.
func named(names []string, of func(t int) int) letter {
	return letter{
		write: func(t int) string { return names[of(t)-1] },
		read: func(s string) int {
			for _, name := range names {
				if len(s) >= len(name) && text.Lower(s[:len(name)]) == text.Lower(name) {
					return len(name)
				}
			}
			return -1
		},
	}
}

// part returns what asks for a part of a time's date.
func part(of func(d api.Date) int) func(t int) int {
	return func(t int) int { return of(dateOf(t)) }
}

func half(d api.Date) int { return d.Hour/12 + 1 }

func letters() map[byte]letter {
	month := part(func(d api.Date) int { return d.Month })
	return map[byte]letter{
		'Y': number(4, part(func(d api.Date) int { return d.Year })),
		'y': number(2, part(func(d api.Date) int { return d.Year % 100 })),
		'm': number(2, month),
		'd': number(2, part(func(d api.Date) int { return d.Day })),
		'H': number(2, part(func(d api.Date) int { return d.Hour })),
		'M': number(2, part(func(d api.Date) int { return d.Minute })),
		'S': number(2, part(func(d api.Date) int { return d.Second })),
		'I': number(2, part(func(d api.Date) int { return (d.Hour+11)%12 + 1 })),
		'j': number(3, yearday),
		'u': number(1, weekday),
		'G': number(4, func(t int) int { y, _ := week(t); return y }),
		'V': number(2, func(t int) int { _, n := week(t); return n }),
		'p': named([]string{"AM", "PM"}, part(half)),
		'B': named(monthNames(), month),
		'b': named(short(monthNames()), month),
		'A': named(dayNames(), weekday),
		'a': named(short(dayNames()), weekday),
		'e': {func(t int) string { return strconv.Itoa(dateOf(t).Day) }, readDay},
		's': {func(t int) string { return strconv.Itoa(t) }, readTime},
	}
}

func readDay(s string) int {
	n := min(digits(s), 2)
	if n == 2 && s[0] == '0' {
		n = 1
	}
	if n == 0 {
		return -1
	}
	return n
}

func readTime(s string) int {
	sign := 0
	if strings.HasPrefix(s, "-") {
		sign = 1
	}
	n := digits(s[sign:])
	// Neither leading zeros nor -0 are written.
	if n == 0 || s[sign] == '0' && n+sign > 1 {
		return -1
	}
	return sign + n
}

// piece is a part of a form: a letter, or a byte that is itself.
type piece struct {
	letter, plain byte
}

// pieces returns the parts of a form; false if it is none.
func pieces(form string, known map[byte]letter) ([]piece, bool) {
	var l []piece
	for i := 0; i < len(form); i++ {
		if form[i] != '%' {
			l = append(l, piece{plain: form[i]})
			continue
		}
		i++
		if i == len(form) {
			return nil, false
		}
		switch c := form[i]; c {
		case '%':
			l = append(l, piece{plain: c})
		case 'D', 'T':
			inner := "%m/%d/%Y"
			if c == 'T' {
				inner = "%H:%M:%S"
			}
			more, _ := pieces(inner, known)
			l = append(l, more...)
		default:
			if _, ok := known[c]; !ok {
				return nil, false
			}
			l = append(l, piece{letter: c})
		}
	}
	return l, true
}

// Write writes a time by a form.
func Write(time int, form string) (string, api.Errno) {
	known := letters()
	l, ok := pieces(form, known)
	switch {
	case !isTime(time):
		return "", api.ErrRange
	case !ok:
		return "", api.ErrSyntax
	}
	var b strings.Builder
	for _, p := range l {
		if p.letter == 0 {
			b.WriteByte(p.plain)
		} else {
			b.WriteString(known[p.letter].write(time))
		}
	}
	return b.String(), api.OK
}

// reading is what the letters of a form read.
type reading map[byte]string

// read reads a text; false if it does not fit, or a letter stands twice.
func read(s string, l []piece, known map[byte]letter) (reading, bool) {
	r := reading{}
	for _, p := range l {
		if p.letter == 0 {
			if s == "" || s[0] != p.plain {
				return nil, false
			}
			s = s[1:]
			continue
		}
		n := known[p.letter].read(s)
		if _, twice := r[p.letter]; twice || n < 0 {
			return nil, false
		}
		r[p.letter] = s[:n]
		s = s[n:]
	}
	return r, s == ""
}

// number returns the number that the first one of some letters read; other, if none did.
func (r reading) number(letters string, other int) int {
	for i := range len(letters) {
		if s, ok := r[letters[i]]; ok {
			n, _ := strconv.Atoi(s)
			return n
		}
	}
	return other
}

func (r reading) year() int {
	if s, ok := r['y']; ok && r['Y'] == "" {
		n, _ := strconv.Atoi(s)
		if n < 69 {
			return 2000 + n
		}
		return 1900 + n
	}
	return r.number("Y", 1970)
}

func (r reading) month() int {
	for i, name := range monthNames() {
		for _, c := range []byte("Bb") {
			if s := r[c]; len(s) >= 3 && text.Lower(s[:3]) == text.Lower(name[:3]) {
				return r.number("m", i+1)
			}
		}
	}
	return r.number("m", 1)
}

// hour returns the hour; 99 if it is none.
func (r reading) hour() int {
	n := r.number("I", -1)
	switch {
	case r['H'] != "" || n < 0:
		return r.number("H", 0)
	case n == 0 || n > 12:
		return 99
	case text.Upper(r['p']) == "PM":
		return n%12 + 12
	}
	return n % 12
}

// time returns the time that was read.
func (r reading) time() (int, api.Errno) {
	if s, ok := r['s']; ok {
		n, e := strconv.Atoi(s)
		if e != nil || !isTime(n) {
			return 0, api.ErrRange
		}
		return n, api.OK
	}
	d := api.Date{Year: r.year(), Month: r.month(), Day: r.number("de", 1), Hour: r.hour(), Minute: r.number("M", 0), Second: r.number("S", 0)}
	more := 0
	if r['j'] != "" {
		n := r.number("j", 0)
		if n < 1 || n > 365 && !(n == 366 && leap(d.Year)) {
			return 0, api.ErrRange
		}
		d.Month, d.Day, more = 1, 1, (n-1)*day
	}
	if !Valid(d) {
		return 0, api.ErrRange
	}
	return timeOf(d) + more, api.OK
}

// Read reads a text by a form.
func Read(s, form string) (int, api.Errno) {
	known := letters()
	l, ok := pieces(form, known)
	if !ok {
		return 0, api.ErrSyntax
	}
	r, ok := read(s, l, known)
	if !ok {
		return 0, api.ErrSyntax
	}
	t, e := r.time()
	if e != api.OK {
		return 0, e
	}
	for _, p := range l {
		if p.letter != 0 && text.Lower(known[p.letter].write(t)) != text.Lower(r[p.letter]) {
			return 0, api.ErrState
		}
	}
	return t, api.OK
}
