package inout

import (
	"strconv"
	"strings"

	"threadbare/api"
	"threadbare/core"
	"threadbare/files"
)

// fileError is the error of a path.
func fileError(e api.Errno, path string) core.Result {
	switch e {
	case api.OK:
		return core.OK("")
	case api.ErrLimit, api.ErrLong:
		return fileLong()
	}
	return core.Fail("file", path)
}

// path returns the normal path that a word means in the current folder.
func (s *shelf) path(word string) (string, core.Result) {
	path, e := files.Normal(s.folder, word)
	return path, fileError(e, word)
}

func doCd(x *core.Machine, words []string) core.Result {
	s := worldOf(x).shelf
	word := "/"
	if len(words) == 2 {
		word = words[1]
	}
	path, r := s.path(word)
	if !r.Good() {
		return r
	}
	if kind, _ := s.store.Kind(path); kind != 2 {
		return core.Fail("file", word)
	}
	s.folder = path
	return core.OK("")
}

func doFiles(x *core.Machine, words []string) core.Result {
	s := worldOf(x).shelf
	return s.names(s.folder, s.folder, words[1])
}

// names tells the names in a folder that a pattern matches.
func (s *shelf) names(path, word, pattern string) core.Result {
	entries, e := s.store.List(path, pattern)
	if e != api.OK {
		return fileError(e, word)
	}
	var l []string
	for _, entry := range entries {
		l = append(l, entry.Name)
	}
	return core.Join(l)
}

// asker is what the sub commands of file ask: the machine, and its files.
type asker struct {
	core.Asker
	*shelf
}

func fileSubs() map[string]core.Sub[asker] {
	return map[string]core.Sub[asker]{
		"exists":   {Least: 1, Most: 1, Do: kinds(1, 2)},
		"isfile":   {Least: 1, Most: 1, Do: kinds(1, 1)},
		"isfolder": {Least: 1, Most: 1, Do: kinds(2, 2)},
		"size":     {Least: 1, Most: 1, Do: asker.size},
		"delete":   {Least: 0, Most: -1, Do: asker.remove},
		"mkdir":    {Least: 0, Most: -1, Do: asker.mkdir},
		"rename":   {Least: 2, Most: 2, Do: asker.rename},
		"copy":     {Least: 2, Most: 2, Do: asker.copy},
		"join":     {Least: 0, Most: -1, Do: asker.join},
		"split":    {Least: 1, Most: 1, Do: func(a asker) core.Result { return core.Join(files.Parts(a.Args[0])) }},
		"name":     {Least: 1, Most: 1, Do: ofPath(files.Name)},
		"parent":   {Least: 1, Most: 1, Do: ofPath(files.Parent)},
		"ending":   {Least: 1, Most: 1, Do: ofPath(files.Ending)},
		"normal":   {Least: 1, Most: 1, Do: asker.normal},
		"list":     {Least: 1, Most: 1, Do: asker.list},
		"get":      {Least: 1, Most: 1, Do: asker.get},
		"put":      {Least: 2, Most: 2, Do: asker.put},
	}
}

func ofPath(of func(path string) string) func(a asker) core.Result {
	return func(a asker) core.Result { return core.OK(of(a.Args[0])) }
}

// kinds asks whether what is there is of a kind.
func kinds(least, most int) func(a asker) core.Result {
	return func(a asker) core.Result {
		path, r := a.path(a.Args[0])
		if !r.Good() {
			return r
		}
		kind, _ := a.store.Kind(path)
		return core.Truth(kind >= least && kind <= most)
	}
}

func (a asker) bytes() (string, core.Result) {
	path, r := a.path(a.Args[0])
	if !r.Good() {
		return "", r
	}
	s, e := a.store.Get(path)
	return s, fileError(e, a.Args[0])
}

func (a asker) size() core.Result {
	s, r := a.bytes()
	if !r.Good() {
		return r
	}
	return core.OK(strconv.Itoa(len(s)))
}

func (a asker) get() core.Result {
	s, r := a.bytes()
	if !r.Good() {
		return r
	}
	return core.OK(s)
}

func (a asker) put() core.Result {
	path, r := a.path(a.Args[0])
	if !r.Good() {
		return r
	}
	return fileError(a.store.Put(path, a.Args[1]), a.Args[0])
}

// each does something with all paths, from the left.
func (a asker) each(do func(path string) api.Errno) core.Result {
	for _, word := range a.Args {
		path, r := a.path(word)
		if r.Good() {
			r = fileError(do(path), word)
		}
		if !r.Good() {
			return r
		}
	}
	return core.OK("")
}

func (a asker) remove() core.Result {
	return a.each(func(path string) api.Errno {
		if e := a.store.Delete(path, true); e != api.ErrNone {
			return e
		}
		return api.OK
	})
}

func (a asker) mkdir() core.Result { return a.each(a.store.Make) }

// moved does something with two paths: the error is that of the second one, if the first one is there.
func (a asker) moved(do func(from, to string) api.Errno) core.Result {
	from, r := a.path(a.Args[0])
	if !r.Good() {
		return r
	}
	to, r := a.path(a.Args[1])
	if !r.Good() {
		return r
	}
	word := a.Args[1]
	if _, e := a.store.Kind(from); e != api.OK {
		word = a.Args[0]
	}
	return fileError(do(from, to), word)
}

func (a asker) rename() core.Result { return a.moved(a.store.Rename) }

func (a asker) copy() core.Result { return a.moved(a.store.Copy) }

func (a asker) join() core.Result {
	joined := ""
	for i, p := range a.Args {
		switch {
		case i == 0 || strings.HasPrefix(p, "/"):
			joined = p
		case joined == "" || strings.HasSuffix(joined, "/"):
			joined += p
		default:
			joined += "/" + p
		}
	}
	return core.OK(joined)
}

func (a asker) normal() core.Result {
	path, r := a.path(a.Args[0])
	if !r.Good() {
		return r
	}
	return core.OK(path)
}

func (a asker) list() core.Result {
	path, r := a.path(a.Args[0])
	if !r.Good() {
		return r
	}
	return a.names(path, a.Args[0], "*")
}
