package host

import (
	"strconv"
	"strings"

	"threadbare/api"
	"threadbare/binary"
)

const (
	maxPass = 1000000000
	maxBook = 5000000
)

// Valid reports whether an event is valid.
func Valid(e api.Event) bool {
	in := func(most int) bool { return e.N >= 0 && e.N <= most }
	if len(e.Text) > api.MaxText {
		return false
	}
	switch e.Kind {
	case api.EScript:
		return e.Name == "" && in(api.MaxSteps)
	case api.EFeed:
		return e.Name != "" && in(0)
	case api.EClose:
		return e.Name != "" && e.Text == "" && in(0)
	case api.ETime:
		return e.Name == "" && e.Text == "" && in(maxPass)
	}
	return false
}

// written writes a text as one word.
func written(s string) string {
	switch s {
	case "":
		return "-"
	case "-":
		return "%2D"
	}
	return binary.Percent(s)
}

func read(word string) string {
	if word == "-" {
		return ""
	}
	s, _ := binary.Unpercent(word)
	return s
}

// Write returns an event's line.
func Write(e api.Event) (string, api.Errno) {
	if !Valid(e) {
		return "", api.ErrInvalid
	}
	switch e.Kind {
	case api.EScript:
		return "script " + strconv.Itoa(e.N) + " " + written(e.Text), api.OK
	case api.EFeed:
		return "feed " + written(e.Name) + " " + written(e.Text), api.OK
	case api.EClose:
		return "close " + written(e.Name), api.OK
	}
	return "time " + strconv.Itoa(e.N), api.OK
}

// Read returns the event of a line.
func Read(line string) (api.Event, api.Errno) {
	words := append(strings.SplitN(line, " ", 4), "", "")
	n, _ := strconv.Atoi(words[1])
	var e api.Event
	switch words[0] {
	case "script":
		e = api.Event{Kind: api.EScript, Text: read(words[2]), N: n}
	case "feed":
		e = api.Event{Kind: api.EFeed, Name: read(words[1]), Text: read(words[2])}
	case "close":
		e = api.Event{Kind: api.EClose, Name: read(words[1])}
	case "time":
		e = api.Event{Kind: api.ETime, N: n}
	}
	// What is written in another way than just so shows when it is written again.
	if again, wrong := Write(e); wrong != api.OK || again != line {
		return api.Event{}, api.ErrSyntax
	}
	return e, api.OK
}

// digits writes a sum.
func digits(sum uint64) string {
	s := strconv.FormatUint(sum, 16)
	return strings.Repeat("0", 16-len(s)) + s
}

// next returns the sum of a line behind another one.
func next(sum uint64, line string) uint64 {
	return binary.Sum64(digits(sum) + " " + line)
}

// entry is a line of the book.
func entry(number int, sum uint64, line string) string {
	return strconv.Itoa(number) + " " + digits(sum) + " " + line
}

// Lines returns the lines of a book.
func Lines(book string) (l []api.Line, torn bool, e api.Errno) {
	if len(book) > maxBook {
		return nil, false, api.ErrLong
	}
	sum := uint64(0)
	for {
		line, rest, whole := strings.Cut(book, "\n")
		if !whole {
			return l, line != "", api.OK
		}
		book = rest
		parts := strings.SplitN(line, " ", 3)
		if len(parts) < 3 {
			return l, false, api.ErrSum
		}
		text := parts[2]
		sum = next(sum, text)
		if _, wrong := Read(text); wrong != api.OK || entry(len(l), sum, text) != line {
			return l, false, api.ErrSum
		}
		if len(l) == api.MaxLines {
			return nil, false, api.ErrLimit
		}
		l = append(l, api.Line{Number: len(l), Text: text, Sum: sum})
	}
}

// Parting returns how many first lines of two books are the same.
func Parting(a, b string) (same int, e api.Errno) {
	x, _, e := Lines(a)
	if e != api.OK {
		return 0, e
	}
	y, _, e := Lines(b)
	if e != api.OK {
		return 0, e
	}
	for same < len(x) && same < len(y) && x[same] == y[same] {
		same++
	}
	return same, api.OK
}
