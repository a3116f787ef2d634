package sys

import (
	"slices"

	"tracings/api"
	"tracings/tree"
	"tracings/union"
)

// process has numbers: each one leads to an opening, or, if it is nil, to nothing.
type process [api.MaxFds]*opening

// opening of a file; several numbers may lead to it.
type opening struct {
	file *file
	use  int // what for
	at   int
}

// file is an open one; several openings may lead to it.
type file struct {
	path  string // empty, if it has none any more
	text  string // while it has a path, the tree has its text
	locks []api.Lock
}

// open lets a number lead to a new opening of what is at the way's end.
func (s *system) open(c api.Call) (step, api.Errno) {
	if !fits(c.N) {
		return nil, api.ErrFit
	}
	numbers := &s.processes[c.Owner]
	fd, err := numbers.free()
	if err != api.OK {
		return nil, err
	}
	p, err := s.lead(c.Path, c.N&api.Fresh == 0)
	if err != api.OK {
		return nil, err
	}
	next, err := s.ready(p, c.N)
	if err != api.OK {
		return nil, err
	}
	return func() api.Answer {
		s.settle(next)
		numbers[fd] = &opening{file: s.fileAt(p), use: c.N}
		return api.Answer{N: fd}
	}, api.OK
}

// fits tells whether a file may be opened for all this at once.
func fits(use int) bool {
	const all = api.Read | api.Write | api.Append | api.Create | api.Fresh | api.Empty
	has := func(x int) bool { return use&x != 0 }
	switch {
	case use < 1 || use > all:
		return false
	case !has(api.Read | api.Write):
		return false
	case has(api.Append|api.Empty) && !has(api.Write):
		return false
	}
	return !has(api.Fresh) || has(api.Create)
}

// free answers the lowest number that leads to nothing.
func (p *process) free() (int, api.Errno) {
	fd := slices.Index(p[:], nil)
	if fd < 0 {
		return 0, api.ErrMany
	}
	return fd, api.OK
}

// ready answers the union in which there is a file at p, as it must be to be opened for this.
func (s *system) ready(p string, use int) (api.Union, api.Errno) {
	e, there := tree.Get(s.seen, p)
	switch {
	case !there && use&api.Create == 0:
		return api.Union{}, api.ErrNone
	case there && use&api.Fresh != 0:
		return api.Union{}, api.ErrName
	case there && e.Kind == api.Dir:
		return api.Union{}, api.ErrDir
	case there && (use&api.Empty == 0 || e.Text == ""):
		return s.union, api.OK
	}
	return union.Put(s.union, api.Entry{Path: p, Kind: api.File})
}

// fileAt is the open file at p; there is a new one, if none was open.
func (s *system) fileAt(p string) *file {
	for _, f := range s.files() {
		if f.path == p {
			return f
		}
	}
	return &file{path: p}
}

// files are the open ones: those to which a number leads.
func (s *system) files() []*file {
	var out []*file
	for _, p := range s.processes {
		for _, o := range p {
			if o != nil && !slices.Contains(out, o.file) {
				out = append(out, o.file)
			}
		}
	}
	return out
}

// text is what f has, with a path or without one.
func (s *system) text(f *file) string {
	if f.path == "" {
		return f.text
	}
	e, _ := tree.Get(s.seen, f.path)
	return e.Text
}
