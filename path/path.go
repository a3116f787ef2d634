// Package path has paths: see doc/01-path.md.
package path

import (
	"strings"

	"tracings/api"
)

// Named tells whether s is a name.
func Named(s string) bool {
	if s == "" || len(s) > api.MaxName {
		return false
	}
	for i := range len(s) {
		if !ofName(s[i]) {
			return false
		}
	}
	return true
}

func ofName(c byte) bool {
	return 'a' <= c && c <= 'z' || '0' <= c && c <= '9'
}

// Clean tells whether s is a clean path.
func Clean(s string) bool {
	if len(s) > api.MaxPath {
		return false
	}
	for _, part := range strings.Split(s, "/") {
		if !Named(part) {
			return false
		}
	}
	return true
}

// Cut answers the directory of s, and the name in it.
func Cut(s string) (string, string) {
	i := strings.LastIndexByte(s, '/')
	if i < 0 {
		return "", s
	}
	return s[:i], s[i+1:]
}

// Join answers the path of name in dir.
func Join(dir, name string) string {
	if dir == "" {
		return name
	}
	return dir + "/" + name
}

// Under tells whether s lies below dir.
func Under(s, dir string) bool {
	if dir == "" {
		return s != ""
	}
	return len(s) > len(dir) && s[len(dir)] == '/' && s[:len(dir)] == dir
}

// Parse answers the names along s, as a process may write it; `..` stays among them, since where it leads hangs on links.
func Parse(s string) ([]string, api.Errno) {
	if len(s) > api.MaxPath {
		return nil, api.ErrMuch
	}
	if s == "" {
		return nil, api.ErrNone
	}
	var names []string
	for _, part := range strings.Split(s, "/") {
		if part == "" || part == "." {
			continue
		}
		if part != ".." && !Named(part) {
			return nil, api.ErrName
		}
		names = append(names, part)
	}
	return names, api.OK
}

// Compare orders paths part by part, so that a directory is followed at once by all that lies below it.
func Compare(a, b string) int {
	i := 0
	for i < len(a) && i < len(b) && a[i] == b[i] {
		i++
	}
	return rank(a, i) - rank(b, i)
}

// rank orders what s has at i: the end comes ahead of `/`, and `/`, since it ends a part, ahead of every other byte, even of lesser ones.
func rank(s string, i int) int {
	switch {
	case i == len(s):
		return 0
	case s[i] == '/':
		return 1
	}
	return 2 + int(s[i])
}
