package expr

import (
	"strconv"

	"threadbare/api"
	"threadbare/big"
	"threadbare/list"
	"threadbare/text"
	"threadbare/value"
)

// operator is an operator of two operands: how much it binds, and what it does. && and || do nothing by themselves: they evaluate only what they need.
type operator struct {
	level int
	right bool
	do    func(a, b string) (result, problem string)
}

// operators returns all operators of two operands by their names.
func operators() map[string]operator {
	m := map[string]operator{}
	for _, name := range []string{"||", "&&", "|", "^", "&", "eq", "ne", "in", "ni", "==", "!=", "<", ">", "<=", ">=", "<<", ">>", "+", "-", "*", "/", "%", "**"} {
		m[name] = operatorOf(name)
	}
	return m
}

// operatorOf returns one of them, without making all: it is asked for each operation.
func operatorOf(name string) operator {
	switch name {
	case "||":
		return operator{level: 1}
	case "&&":
		return operator{level: 2}
	case "|":
		return operator{3, false, numbers(big.Or)}
	case "^":
		return operator{4, false, numbers(big.Xor)}
	case "&":
		return operator{5, false, numbers(big.And)}
	case "eq":
		return operator{6, false, equal}
	case "ne":
		return operator{6, false, opposite(equal)}
	case "in":
		return operator{6, false, element}
	case "ni":
		return operator{6, false, opposite(element)}
	case "==":
		return operator{7, false, compared(func(c int) bool { return c == 0 })}
	case "!=":
		return operator{7, false, compared(func(c int) bool { return c != 0 })}
	}
	return higherOperatorOf(name)
}

func higherOperatorOf(name string) operator {
	switch name {
	case "<":
		return operator{8, false, compared(func(c int) bool { return c < 0 })}
	case ">":
		return operator{8, false, compared(func(c int) bool { return c > 0 })}
	case "<=":
		return operator{8, false, compared(func(c int) bool { return c <= 0 })}
	case ">=":
		return operator{8, false, compared(func(c int) bool { return c >= 0 })}
	case "<<":
		return operator{9, false, shift(1)}
	case ">>":
		return operator{9, false, shift(-1)}
	case "+":
		return operator{10, false, numbers(big.Add)}
	case "-":
		return operator{10, false, numbers(big.Sub)}
	case "*":
		return operator{11, false, numbers(big.Mul)}
	case "/":
		return operator{11, false, numbers(quotient)}
	case "%":
		return operator{11, false, numbers(rest)}
	case "**":
		return operator{12, true, numbers(big.Pow)}
	}
	return operator{}
}

// prefix is an operator of one operand, or a function, by its least and greatest number of operands (-1: any).
type prefix struct {
	least, most int
	do          func(args []string) (result, problem string)
}

func prefixes() map[string]prefix {
	return map[string]prefix{
		"-": {1, 1, each(big.Neg)}, "+": {1, 1, each(big.Canonical)}, "~": {1, 1, each(big.Not)}, "!": {1, 1, not},
	}
}

func functions() map[string]prefix {
	return map[string]prefix{
		"abs": {1, 1, each(big.Abs)}, "sign": {1, 1, each(sign)}, "root": {1, 1, each(big.Root)},
		"not": {1, 1, not}, "bool": {1, 1, truth},
		"min": {1, -1, extreme(func(c int) bool { return c < 0 })}, "max": {1, -1, extreme(func(c int) bool { return c > 0 })},
		"gcd": {2, 2, both(big.Gcd)}, "pow": {2, 2, both(big.Pow)},
	}
}

func one(b bool) string {
	if b {
		return "1"
	}
	return "0"
}

func quotient(a, b string) (string, api.Errno) {
	q, _, e := big.Div(a, b)
	return q, e
}

func rest(a, b string) (string, api.Errno) {
	_, r, e := big.Div(a, b)
	return r, e
}

func sign(a string) (string, api.Errno) {
	n, e := big.Sign(a)
	if e != api.OK {
		return "", e
	}
	return strconv.Itoa(n), api.OK
}

// noNumber returns the error text of the first text that is no number.
func noNumber(args ...string) string {
	for _, a := range args {
		if _, e := big.Canonical(a); e == api.ErrSyntax {
			return "number: " + text.Detail(a)
		}
	}
	return ""
}

// problem is the error text of an error of numbers; last is the operand that is out of range.
func problem(e api.Errno, last string) string {
	switch e {
	case api.OK:
		return ""
	case api.ErrZero:
		return "zero"
	case api.ErrRange:
		return "range: " + text.Detail(last)
	}
	return "long"
}

func numbers(f func(a, b string) (string, api.Errno)) func(a, b string) (string, string) {
	return func(a, b string) (string, string) {
		if p := noNumber(a, b); p != "" {
			return "", p
		}
		s, e := f(a, b)
		return s, problem(e, b)
	}
}

func both(f func(a, b string) (string, api.Errno)) func(args []string) (string, string) {
	do := numbers(f)
	return func(args []string) (string, string) { return do(args[0], args[1]) }
}

func each(f func(a string) (string, api.Errno)) func(args []string) (string, string) {
	return func(args []string) (string, string) {
		if p := noNumber(args...); p != "" {
			return "", p
		}
		s, e := f(args[0])
		return s, problem(e, args[0])
	}
}

func shift(way int) func(a, b string) (string, string) {
	return func(a, b string) (string, string) {
		if p := noNumber(a, b); p != "" {
			return "", p
		}
		n, e := big.Int(b)
		if e != api.OK || n < 0 || n > 100000 {
			return "", problem(api.ErrRange, b)
		}
		s, e := big.Shift(a, way*n)
		return s, problem(e, b)
	}
}

func compared(right func(c int) bool) func(a, b string) (string, string) {
	return func(a, b string) (string, string) {
		c, e := big.Compare(a, b)
		if e != api.OK {
			c = text.Compare(a, b)
		}
		return one(right(c)), ""
	}
}

func equal(a, b string) (string, string) { return one(a == b), "" }

func element(a, b string) (string, string) {
	l, _, e := list.Split(b)
	if e != api.OK {
		return "", "list: " + text.Detail(b)
	}
	for _, s := range l {
		if s == a {
			return "1", ""
		}
	}
	return "0", ""
}

func opposite(f func(a, b string) (string, string)) func(a, b string) (string, string) {
	return func(a, b string) (string, string) {
		s, p := f(a, b)
		if p != "" {
			return "", p
		}
		return one(s == "0"), ""
	}
}

// Truth returns whether a text is true, or the error text.
func Truth(s string) (bool, string) {
	yes, e := value.New(s).Truth()
	if e != api.OK {
		return false, "truth: " + text.Detail(s)
	}
	return yes, ""
}

func truth(args []string) (string, string) {
	yes, p := Truth(args[0])
	if p != "" {
		return "", p
	}
	return one(yes), ""
}

func not(args []string) (string, string) {
	yes, p := Truth(args[0])
	if p != "" {
		return "", p
	}
	return one(!yes), ""
}

// best returns the first element that no other one is better than.
func best[T any](l []T, better func(a, b T) bool) T {
	r := l[0]
	for _, x := range l[1:] {
		if better(x, r) {
			r = x
		}
	}
	return r
}

func extreme(better func(c int) bool) func(args []string) (string, string) {
	return func(args []string) (string, string) {
		if p := noNumber(args...); p != "" {
			return "", p
		}
		for _, a := range args {
			if !big.Valid(a) {
				return "", "long"
			}
		}
		s, e := big.Canonical(best(args, func(a, b string) bool {
			c, _ := big.Compare(a, b)
			return better(c)
		}))
		return s, problem(e, "")
	}
}

func applied(forms map[string]prefix, kind, name string, args []string) (string, string) {
	f, ok := forms[name]
	if !ok || len(args) < f.least || f.most >= 0 && len(args) > f.most {
		return "", kind + ": " + text.Detail(name)
	}
	return f.do(args)
}

// Apply does an operator of one or two operands.
func Apply(op string, args []string) (result, problem string) {
	if f := operatorOf(op); len(args) == 2 && f.do != nil {
		return f.do(args[0], args[1])
	}
	return applied(prefixes(), "operator", op, args)
}

// Call does a function.
func Call(name string, args []string) (result, problem string) {
	return applied(functions(), "function", name, args)
}
