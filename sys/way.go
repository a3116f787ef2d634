package sys

import (
	"strings"

	"tracings/api"
	"tracings/path"
	"tracings/tree"
)

// walk is a way that is being gone: what was come to, the names that are left, and how many links were followed.
type walk struct {
	at    string
	names []string
	hops  int
}

// lead answers the path to which a way leads; nothing need be there. Whether a Link that stands last is followed hangs on the call.
func (s *system) lead(way string, follow bool) (string, api.Errno) {
	names, err := path.Parse(way)
	w := &walk{names: names}
	for err == api.OK && len(w.names) > 0 {
		err = w.goOn(s.seen, follow)
	}
	if err != api.OK {
		return "", err
	}
	if len(w.at) > api.MaxPath {
		return "", api.ErrMuch
	}
	return w.at, api.OK
}

// goOn goes one name on. What is not there may be come to: with a name behind it, that name is refused.
func (w *walk) goOn(seen api.Tree, follow bool) api.Errno {
	if _, err := tree.List(seen, w.at); err != api.OK {
		return err
	}
	name := w.names[0]
	w.names = w.names[1:]
	if name == ".." {
		w.at, _ = path.Cut(w.at)
		return api.OK
	}
	next := path.Join(w.at, name)
	e, _ := tree.Get(seen, next)
	if e.Kind == api.Link && (len(w.names) > 0 || follow) {
		return w.hop(e.Text)
	}
	w.at = next
	return api.OK
}

// hop follows a Link to this text, from the directory in which it is.
func (w *walk) hop(text string) api.Errno {
	w.hops++
	if w.hops > api.MaxHops {
		return api.ErrLoop
	}
	names, err := path.Parse(text)
	if err != api.OK {
		return err
	}
	w.names = append(names, w.names...)
	if strings.HasPrefix(text, "/") {
		w.at = ""
	}
	return api.OK
}
