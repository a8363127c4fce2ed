// Package files is layer 13: see shared/doc/13-files.md.
package files

import (
	"strings"

	"threadbare/api"
)

const (
	maxPath = 1000
	maxPart = 60
)

func isPath(s string) bool { return len(s) <= maxPath && strings.IndexByte(s, 0) < 0 }

func absolute(s string) bool { return strings.HasPrefix(s, "/") }

// normal takes the parts . and .. out.
func normal(parts []string) []string {
	var l []string
	for _, p := range parts {
		switch {
		case p == "..":
			l = l[:max(len(l)-1, 0)]
		case p != ".":
			l = append(l, p)
		}
	}
	return l
}

func pathOf(parts []string) string { return "/" + strings.Join(parts, "/") }

// tooLong reports whether a normal path is too long.
func tooLong(parts []string) bool {
	for _, p := range parts {
		if len(p) > maxPart {
			return true
		}
	}
	return len(pathOf(parts)) > maxPath
}

// Normal makes a path normal from a folder.
func Normal(folder, path string) (string, api.Errno) {
	if !isPath(folder) || !absolute(folder) || !isPath(path) {
		return "", api.ErrInvalid
	}
	l := Parts(path)
	if !absolute(path) {
		l = append(Parts(folder), l...)
	}
	l = normal(l)
	if tooLong(l) {
		return "", api.ErrLong
	}
	return pathOf(l), api.OK
}

// Parts returns the parts of a path, as they stand.
func Parts(path string) []string {
	var l []string
	for _, p := range strings.Split(path, "/") {
		if p != "" {
			l = append(l, p)
		}
	}
	return l
}

// Parent returns the path without its last part.
func Parent(path string) string {
	l := Parts(path)
	l = l[:max(len(l)-1, 0)]
	switch {
	case absolute(path):
		return pathOf(l)
	case len(l) == 0:
		return "."
	}
	return strings.Join(l, "/")
}

// Name returns the last part.
func Name(path string) string {
	l := Parts(path)
	if len(l) == 0 {
		return ""
	}
	return l[len(l)-1]
}

// Ending returns the end of the name from its last dot on.
func Ending(path string) string {
	name := Name(path)
	at := strings.LastIndexByte(name, '.')
	if at < 1 {
		return ""
	}
	return name[at:]
}

// Relative returns the path that leads from a folder to a path.
func Relative(from, to string) (string, api.Errno) {
	if !isPath(from) || !isPath(to) || !absolute(from) || !absolute(to) {
		return "", api.ErrInvalid
	}
	a, b := normal(Parts(from)), normal(Parts(to))
	for len(a) > 0 && len(b) > 0 && a[0] == b[0] {
		a, b = a[1:], b[1:]
	}
	var l []string
	for range a {
		l = append(l, "..")
	}
	l = append(l, b...)
	if len(l) == 0 {
		return ".", api.OK
	}
	return strings.Join(l, "/"), api.OK
}
