package sys

import (
	"tracings/api"
	"tracings/path"
	"tracings/tree"
	"tracings/union"
)

// add lets e, a Dir or a Link, stand at the way's end.
func (s *system) add(way string, e api.Entry) (step, api.Errno) {
	p, err := s.lead(way, false)
	if err != api.OK {
		return nil, err
	}
	if _, there := tree.Get(s.seen, p); there {
		return nil, api.ErrName
	}
	e.Path = p
	next, err := union.Put(s.union, e)
	if err != api.OK {
		return nil, err
	}
	return func() api.Answer {
		s.settle(next)
		return api.Answer{}
	}, api.OK
}

// remove takes away what is at the way's end: CallRmdir a Dir, CallUnlink anything else.
func (s *system) remove(c api.Call) (step, api.Errno) {
	p, err := s.lead(c.Path, false)
	if err != api.OK {
		return nil, err
	}
	e, there := tree.Get(s.seen, p)
	switch {
	case !there:
		return nil, api.ErrNone
	case c.Kind == api.CallRmdir && e.Kind != api.Dir:
		return nil, api.ErrNotDir
	case c.Kind == api.CallUnlink && e.Kind == api.Dir:
		return nil, api.ErrDir
	case p == "":
		return nil, api.ErrFit
	}
	next, err := union.Remove(s.union, p)
	if err != api.OK {
		return nil, err
	}
	return func() api.Answer {
		s.release(p)
		s.settle(next)
		return api.Answer{}
	}, api.OK
}

// rename lets what is at the one way's end, and all below it, stand at the other one's.
func (s *system) rename(fromWay, toWay string) (step, api.Errno) {
	from, err := s.lead(fromWay, false)
	if err != api.OK {
		return nil, err
	}
	to, err := s.lead(toWay, false)
	if err != api.OK {
		return nil, err
	}
	if from == "" || to == "" {
		return nil, api.ErrFit
	}
	next, err := union.Move(s.union, from, to)
	if err != api.OK {
		return nil, err
	}
	return func() api.Answer {
		if from != to { // moved to itself, a file is nothing else
			s.release(to)
		}
		s.carry(from, to)
		s.settle(next)
		return api.Answer{}
	}, api.OK
}

// release takes the path p from an open file that is there: its text, which the tree has until now, is its own from now on.
func (s *system) release(p string) {
	for _, f := range s.files() {
		if f.path == p {
			f.text = s.text(f)
			f.path = ""
		}
	}
}

// carry lets open files go where their paths are moved.
func (s *system) carry(from, to string) {
	for _, f := range s.files() {
		if f.path == from || path.Under(f.path, from) {
			f.path = to + f.path[len(from):]
		}
	}
}

func (s *system) list(way string) (step, api.Errno) {
	p, err := s.lead(way, true)
	if err != api.OK {
		return nil, err
	}
	names, err := tree.List(s.seen, p)
	return func() api.Answer { return api.Answer{Names: names} }, err
}

func (s *system) stat(way string) (step, api.Errno) {
	p, err := s.lead(way, true)
	if err != api.OK {
		return nil, err
	}
	e, there := tree.Get(s.seen, p)
	if !there {
		return nil, api.ErrNone
	}
	return func() api.Answer { return api.Answer{N: e.Kind, Text: e.Text} }, api.OK
}
