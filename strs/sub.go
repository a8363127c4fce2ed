package strs

import (
	"strconv"
	"strings"

	"threadbare/api"
	"threadbare/big"
	"threadbare/binary"
	"threadbare/core"
	"threadbare/dict"
	"threadbare/expr"
	"threadbare/list"
	"threadbare/text"
)

// asker is what the sub commands of this layer ask.
type asker struct {
	core.Asker
}

func texts() map[string]core.Sub[asker] {
	return map[string]core.Sub[asker]{
		"length":    {Least: 1, Most: 1, Do: asker.length},
		"reverse":   {Least: 1, Most: 1, Do: changed(text.Reverse)},
		"tolower":   {Least: 1, Most: 1, Do: changed(text.Lower)},
		"toupper":   {Least: 1, Most: 1, Do: changed(text.Upper)},
		"totitle":   {Least: 1, Most: 1, Do: changed(text.Title)},
		"quote":     {Least: 1, Most: 1, Do: changed(list.Quote)},
		"index":     {Least: 2, Most: 2, Do: asker.index},
		"range":     {Least: 3, Most: 3, Do: asker.cut},
		"replace":   {Least: 3, Most: 4, Do: asker.replace},
		"insert":    {Least: 3, Most: 3, Do: asker.insert},
		"first":     {Least: 2, Most: 3, Do: asker.first},
		"last":      {Least: 2, Most: 3, Do: asker.last},
		"count":     {Least: 2, Most: 2, Do: asker.count},
		"repeat":    {Least: 2, Most: 2, Do: asker.repeat},
		"trim":      {Least: 1, Most: 2, Do: trimmed(true, true)},
		"trimleft":  {Least: 1, Most: 2, Do: trimmed(true, false)},
		"trimright": {Least: 1, Most: 2, Do: trimmed(false, true)},
		"compare":   {Least: 2, Most: -1, Do: asker.compare},
		"equal":     {Least: 2, Most: -1, Do: asker.equal},
		"match":     {Least: 2, Most: -1, Do: asker.match},
		"map":       {Least: 2, Most: -1, Do: asker.mapped},
		"is":        {Least: 2, Most: 2, Do: asker.is},
		"cat":       {Least: 0, Most: -1, Do: asker.cat},
	}
}

func changed(form func(s string) string) func(a asker) core.Result {
	return func(a asker) core.Result { return core.OK(form(a.Args[0])) }
}

func trimmed(left, right bool) func(a asker) core.Result {
	return func(a asker) core.Result {
		return core.OK(text.Trim(a.Args[0], a.Arg(1, " \t\n\v\f\r"), left, right))
	}
}

func (a asker) length() core.Result { return core.OK(strconv.Itoa(len(a.Args[0]))) }

// places returns the indexes of places in a text.
func places(s string, words ...string) ([]int, core.Result) {
	var l []int
	for _, w := range words {
		n, e := text.Place(w, len(s))
		if e != api.OK {
			return nil, core.Fail("index", w)
		}
		l = append(l, n)
	}
	return l, core.OK("")
}

func (a asker) index() core.Result {
	at, r := places(a.Args[0], a.Args[1])
	if !r.Good() {
		return r
	}
	if at[0] < 0 {
		return core.OK("")
	}
	return core.OK(text.Range(a.Args[0], at[0], at[0]))
}

func (a asker) cut() core.Result {
	at, r := places(a.Args[0], a.Args[1], a.Args[2])
	if !r.Good() {
		return r
	}
	return core.OK(text.Range(a.Args[0], at[0], at[1]))
}

func (a asker) replace() core.Result {
	at, r := places(a.Args[0], a.Args[1], a.Args[2])
	if !r.Good() {
		return r
	}
	return core.Long(text.Replace(a.Args[0], at[0], at[1], a.Arg(3, "")))
}

func (a asker) insert() core.Result {
	s, e := Insert(a.Args[0], a.Args[1], a.Args[2])
	if e == api.ErrSyntax {
		return core.Fail("index", a.Args[1])
	}
	return core.Long(s, e)
}

func (a asker) first() core.Result {
	at, r := places(a.Args[1], a.Arg(2, "0"))
	if !r.Good() {
		return r
	}
	return core.OK(strconv.Itoa(text.First(a.Args[0], a.Args[1], at[0])))
}

func (a asker) last() core.Result {
	at, r := places(a.Args[1], a.Arg(2, "end"))
	if !r.Good() {
		return r
	}
	return core.OK(strconv.Itoa(text.Last(a.Args[0], a.Args[1], at[0])))
}

func (a asker) count() core.Result {
	return core.OK(strconv.Itoa(text.Count(a.Args[0], a.Args[1])))
}

func (a asker) repeat() core.Result {
	n, r := Number(a.Args[1])
	if !r.Good() {
		return r
	}
	return core.Long(text.Repeat(a.Args[0], n))
}

func (a asker) cat() core.Result { return core.OK(strings.Join(a.Args, "")) }

// option does what an option says, with the words behind it, and tells how many of those it takes; -1 if one lacks.
type option func(behind []string) (int, core.Result)

// set is an option that takes no word.
func set(flag *bool) option {
	return func([]string) (int, core.Result) {
		*flag = true
		return 0, core.OK("")
	}
}

// options reads the options before the last two words, and returns those.
func (a asker) options(known map[string]option) ([]string, core.Result) {
	words := a.Args
	for len(words) > 2 {
		if !strings.HasPrefix(words[0], "-") {
			return nil, core.WordsError(a.Words)
		}
		do, ok := known[words[0]]
		if !ok {
			return nil, core.Fail("option", words[0])
		}
		n, r := do(words[1 : len(words)-2])
		switch {
		case n < 0:
			return nil, core.WordsError(a.Words)
		case !r.Good():
			return nil, r
		}
		words = words[1+n:]
	}
	return words, core.OK("")
}

// compared returns the comparison that compare and equal tell.
func (a asker) compared() (int, core.Result) {
	fold, length := false, -1
	words, r := a.options(map[string]option{
		"-nocase": set(&fold),
		"-length": func(behind []string) (int, core.Result) {
			if len(behind) == 0 {
				return -1, core.OK("")
			}
			n, r := Number(behind[0])
			length = n
			return 1, r
		},
	})
	if !r.Good() {
		return 0, r
	}
	return Compare(words[0], words[1], fold, length), core.OK("")
}

func (a asker) compare() core.Result {
	c, r := a.compared()
	if !r.Good() {
		return r
	}
	return core.OK(strconv.Itoa(c))
}

func (a asker) equal() core.Result {
	c, r := a.compared()
	if !r.Good() {
		return r
	}
	return core.Truth(c == 0)
}

func (a asker) match() core.Result {
	fold := false
	words, r := a.options(map[string]option{"-nocase": set(&fold)})
	if !r.Good() {
		return r
	}
	return core.Truth(text.Glob(words[0], words[1], fold))
}

func (a asker) mapped() core.Result {
	fold := false
	words, r := a.options(map[string]option{"-nocase": set(&fold)})
	if !r.Good() {
		return r
	}
	pairs, r := a.List(words[0])
	if !r.Good() {
		return r
	}
	if len(pairs)%2 != 0 {
		return core.Fail("pairs", words[0])
	}
	return core.Long(text.Map(words[1], pairs, fold))
}

// class is a class of texts that layer 1 has not.
type class struct {
	has func(s string) bool
}

func classes() map[string]class {
	return map[string]class{
		"integer": {big.Valid},
		"boolean": {func(s string) bool { _, problem := expr.Truth(s); return problem == "" }},
		"list":    {list.Valid},
		"dict":    {dict.Valid},
	}
}

func (a asker) is() core.Result {
	if c, ok := classes()[a.Args[0]]; ok {
		return core.Truth(c.has(a.Args[1]))
	}
	yes, e := text.Is(a.Args[0], a.Args[1])
	if e != api.OK {
		return core.Fail("option", a.Args[0])
	}
	return core.Truth(yes)
}

func binaries() map[string]core.Sub[asker] {
	return map[string]core.Sub[asker]{
		"format": {Least: 1, Most: -1, Do: asker.pack},
		"scan":   {Least: 2, Most: 2, Do: asker.unpack},
		"encode": {Least: 2, Most: 2, Do: asker.encode},
		"decode": {Least: 2, Most: 2, Do: asker.decode},
	}
}

func (a asker) pack() core.Result {
	s, e := binary.Pack(a.Args[0], a.Args[1:])
	if e != api.OK {
		return formatError(e, a.Args[0])
	}
	return core.OK(s)
}

func (a asker) unpack() core.Result {
	l, _, e := binary.Unpack(a.Args[1], a.Args[0])
	if e != api.OK {
		return formatError(e, a.Args[1])
	}
	return core.Join(l)
}

// encoding is a way to write bytes, there and back.
type encoding struct {
	there, back func(s string) (string, api.Errno)
}

func always(f func(s string) string) func(s string) (string, api.Errno) {
	return func(s string) (string, api.Errno) { return f(s), api.OK }
}

func encodings() map[string]encoding {
	return map[string]encoding{
		"hex":     {always(binary.Hex), binary.Unhex},
		"base64":  {always(binary.Base64), binary.Unbase64},
		"percent": {always(binary.Percent), binary.Unpercent},
		"latin":   {binary.Latin, binary.Unlatin},
	}
}

func (a asker) coded(way func(c encoding) func(s string) (string, api.Errno)) core.Result {
	c, ok := encodings()[a.Args[0]]
	if !ok {
		return core.Fail("option", a.Args[0])
	}
	s, e := way(c)(a.Args[1])
	switch e {
	case api.OK:
		return core.OK(s)
	case api.ErrLimit:
		return core.Error("long")
	}
	return core.Fail("binary", a.Args[1])
}

func (a asker) encode() core.Result {
	return a.coded(func(c encoding) func(s string) (string, api.Errno) { return c.there })
}

func (a asker) decode() core.Result {
	return a.coded(func(c encoding) func(s string) (string, api.Errno) { return c.back })
}
