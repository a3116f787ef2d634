package sys

import (
	"strings"

	"tracings/api"
	"tracings/lock"
	"tracings/union"
)

// stepOfNumber is the step of a call with Fd.
func (s *system) stepOfNumber(c api.Call) (step, api.Errno) {
	numbers := &s.processes[c.Owner]
	if c.Fd < 0 || c.Fd >= api.MaxFds || numbers[c.Fd] == nil {
		return nil, api.ErrNone
	}
	o := numbers[c.Fd]
	switch c.Kind {
	case api.CallClose:
		return numbers.close(c.Fd, c.Owner), api.OK
	case api.CallDup:
		return numbers.double(o)
	case api.CallSeek:
		return o.seek(c.N)
	case api.CallLock:
		return o.lock(c, lock.Take)
	case api.CallFree:
		return o.lock(c, lock.Free)
	case api.CallRead:
		return s.read(o, c.N)
	case api.CallWrite:
		return s.write(o, c.Text)
	}
	return s.cut(o, c.N)
}

// close lets a number lead to nothing. The owner's locks go, even if others of its numbers lead to that file.
func (p *process) close(fd, owner int) step {
	f := p[fd].file
	return func() api.Answer {
		p[fd] = nil
		f.locks = lock.Leave(f.locks, owner)
		return api.Answer{}
	}
}

// double lets another number lead to o.
func (p *process) double(o *opening) (step, api.Errno) {
	fd, err := p.free()
	if err != api.OK {
		return nil, err
	}
	return func() api.Answer {
		p[fd] = o
		return api.Answer{N: fd}
	}, api.OK
}

func (o *opening) seek(at int) (step, api.Errno) {
	if at < 0 || at > api.MaxEnd {
		return nil, api.ErrRange
	}
	return func() api.Answer {
		o.at = at
		return api.Answer{}
	}, api.OK
}

// lock lets change, which is Take or Free, work on the locks of the file.
func (o *opening) lock(c api.Call, change func([]api.Lock, api.Lock) ([]api.Lock, api.Errno)) (step, api.Errno) {
	locks, err := change(o.file.locks, api.Lock{Owner: c.Owner, From: c.N, To: c.M, Alone: c.Alone})
	if err != api.OK {
		return nil, err
	}
	return func() api.Answer {
		o.file.locks = locks
		return api.Answer{}
	}, api.OK
}

// read answers n bytes at most, from where o is.
func (s *system) read(o *opening, n int) (step, api.Errno) {
	if o.use&api.Read == 0 {
		return nil, api.ErrFit
	}
	if n < 0 || n > api.MaxEnd {
		return nil, api.ErrRange
	}
	text := s.text(o.file)
	text = text[min(o.at, len(text)):]
	text = text[:min(n, len(text))]
	return func() api.Answer {
		o.at += len(text)
		return api.Answer{N: len(text), Text: text}
	}, api.OK
}

// write lets text stand where o is, or, with Append, at the end.
func (s *system) write(o *opening, text string) (step, api.Errno) {
	if o.use&api.Write == 0 {
		return nil, api.ErrFit
	}
	now, at := s.text(o.file), o.at
	if o.use&api.Append != 0 {
		at = len(now)
	}
	end := at + len(text)
	if text != "" { // a place behind the end is no reason to fill up to it
		if end > api.MaxText {
			return nil, api.ErrMuch
		}
		now = sized(now, at) + text + now[min(end, len(now)):]
	}
	keep, err := s.keeping(o.file, now)
	if err != api.OK {
		return nil, err
	}
	return func() api.Answer {
		keep()
		o.at = end
		return api.Answer{N: len(text)}
	}, api.OK
}

// cut lets the file have n bytes; no place moves, even behind them.
func (s *system) cut(o *opening, n int) (step, api.Errno) {
	if o.use&api.Write == 0 {
		return nil, api.ErrFit
	}
	if n < 0 || n > api.MaxText {
		return nil, api.ErrRange
	}
	keep, err := s.keeping(o.file, sized(s.text(o.file), n))
	if err != api.OK {
		return nil, err
	}
	return func() api.Answer {
		keep()
		return api.Answer{}
	}, api.OK
}

// sized is the text's first n bytes, those that are missing 0.
func sized(text string, n int) string {
	return text[:min(n, len(text))] + strings.Repeat("\x00", max(0, n-len(text)))
}

// keeping answers how f comes to have this text. The one that it has already is not put: what only a lower layer has stays there alone.
func (s *system) keeping(f *file, text string) (func(), api.Errno) {
	if text == s.text(f) {
		return func() {}, api.OK
	}
	if f.path == "" {
		return func() { f.text = text }, api.OK
	}
	next, err := union.Put(s.union, api.Entry{Path: f.path, Kind: api.File, Text: text})
	return func() { s.settle(next) }, err
}
