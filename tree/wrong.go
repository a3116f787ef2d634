package tree

import (
	"slices"

	"tracings/api"
	"tracings/path"
)

// firstFault goes through t entry by entry, as those of a layer, or of a tree.
func firstFault(t api.Tree, layer bool) api.Fault {
	if len(t) > api.MaxEntries {
		return api.Fault{Err: api.ErrMany}
	}
	for i, e := range t {
		err := wrongEntry(e, layer)
		if err == api.OK {
			err = wrongPlace(t[:i], e.Path)
		}
		if err != api.OK {
			return api.Fault{Err: err, At: i}
		}
	}
	return api.Fault{}
}

// wrongEntry tells what is wrong with e, whatever stands beside it.
func wrongEntry(e api.Entry, layer bool) api.Errno {
	takesText := e.Kind == api.File || e.Kind == api.Link
	switch {
	case !takesText && !isDir(e) && !(layer && e.Kind == api.White):
		return api.ErrKind
	case !path.Clean(e.Path):
		return api.ErrName
	case len(e.Text) > api.MaxText:
		return api.ErrMuch
	case e.Text != "" && !takesText,
		e.Text == "" && e.Kind == api.Link,
		e.Opaque && !(layer && isDir(e)):
		return api.ErrFit
	}
	return api.OK
}

// wrongPlace tells why p can't stand right behind a right tree.
func wrongPlace(ahead api.Tree, p string) api.Errno {
	if n := len(ahead); n > 0 && path.Compare(ahead[n-1].Path, p) >= 0 {
		return api.ErrForm
	}
	if noDirFor(ahead, p) != api.OK {
		return api.ErrNotDir
	}
	return api.OK
}

// noDirFor tells why p's directory can't take it.
func noDirFor(t api.Tree, p string) api.Errno {
	dir, _ := path.Cut(p)
	return noDir(t, dir)
}

func noDir(t api.Tree, p string) api.Errno {
	e, there := Get(t, p)
	switch {
	case !there:
		return api.ErrNone
	case !isDir(e):
		return api.ErrNotDir
	}
	return api.OK
}

// missing tells whether nothing stands at p; nothing ever stands at the empty path, though it is there: it can't be taken away.
func missing(t api.Tree, p string) api.Errno {
	if _, there := find(t, p); !there {
		return api.ErrNone
	}
	return api.OK
}

func full(t api.Tree, p string) api.Errno {
	if slices.ContainsFunc(t, func(e api.Entry) bool { return path.Under(e.Path, p) }) {
		return api.ErrFull
	}
	return api.OK
}

// noRoom tells why what is at from can't stand in the place of what is at to.
func noRoom(t api.Tree, from, to string) api.Errno {
	old, there := Get(t, to)
	if !there {
		return api.OK
	}
	what, _ := Get(t, from)
	switch {
	case isDir(old) && !isDir(what):
		return api.ErrDir
	case !isDir(old) && isDir(what):
		return api.ErrNotDir
	}
	return full(t, to)
}
