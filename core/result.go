package core

import (
	"threadbare/api"
	"threadbare/text"
)

// Tail is the command of a tail call, which is done when its procedure has ended.
type Tail struct {
	Words []string
	Space string // where its first word is found
}

// Result is how something ended: an outcome, and what only goes on within the machine.
type Result struct {
	api.Outcome
	Tail *Tail
	// From is the machine whose script is ended by a CStop, by its limit or because it was deleted; nil if all ends.
	From *Machine
}

// OK is the outcome COk with a text.
func OK(text string) Result {
	return Result{Outcome: api.Outcome{Text: text}}
}

// Error is the outcome CError with a text.
func Error(text string) Result {
	return Result{Outcome: api.Outcome{Code: api.CError, Text: text}}
}

// Fail is the error of a kind, with the Detail of what is wrong.
func Fail(kind, what string) Result { return Error(kind + ": " + text.Detail(what)) }

// Code is an outcome of a code.
func Code(code int, text string) Result {
	return Result{Outcome: api.Outcome{Code: code, Text: text}}
}

// Good reports whether the outcome is COk.
func (r Result) Good() bool { return r.Code == api.COk }

// Problem is the error of an error text of layer 9; none for the empty one.
func Problem(p string) Result {
	if p == "" {
		return OK("")
	}
	return Error(p)
}

// ListError is the error of a text that is no list.
func ListError(e api.Errno, what string) Result {
	switch e {
	case api.OK:
		return OK("")
	case api.ErrSyntax:
		return Fail("list", what)
	}
	return Error("long")
}

// NumberError is the error of a text that is no number.
func NumberError(e api.Errno, what string) Result {
	switch e {
	case api.OK:
		return OK("")
	case api.ErrSyntax:
		return Fail("number", what)
	}
	return Error("long")
}

// Long is COk with a text, or long for one that a function refused to make.
func Long(text string, e api.Errno) Result {
	if e != api.OK {
		return Error("long")
	}
	return OK(text)
}

// Truth is 1 or 0.
func Truth(yes bool) Result {
	if yes {
		return OK("1")
	}
	return OK("0")
}
