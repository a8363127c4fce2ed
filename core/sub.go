package core

// Sub is a sub command: how many words it takes behind its sub word (-1: any number), and what it does for what asks.
type Sub[T any] struct {
	Least, Most int
	Do          func(asker T) Result
}

// Dispatch does the sub command that the second word names.
func Dispatch[T any](words []string, subs map[string]Sub[T], asker T) Result {
	if len(words) < 2 {
		return WordsError(words)
	}
	s, ok := subs[words[1]]
	if !ok {
		return Fail("option", words[1])
	}
	if n := len(words) - 2; n < s.Least || s.Most >= 0 && n > s.Most {
		return WordsError(words)
	}
	return s.Do(asker)
}

// Asker is what sub commands ask: a machine, the words of the command, and those behind the sub word.
type Asker struct {
	*Machine
	Words []string
	Args  []string
}

// NewAsker returns what the sub commands of words ask.
func NewAsker(x *Machine, words []string) Asker {
	a := Asker{Machine: x, Words: words}
	if len(words) > 2 {
		a.Args = words[2:]
	}
	return a
}

// Arg returns a word behind the sub word, or another text if it lacks.
func (a Asker) Arg(i int, other string) string {
	if i < len(a.Args) {
		return a.Args[i]
	}
	return other
}
