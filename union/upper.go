package union

import (
	"slices"

	"tracings/api"
	"tracings/layer"
	"tracings/path"
	"tracings/tree"
)

// upper is an upper layer that is being changed; it may have more than MaxEntries for a while.
type upper struct {
	own   api.Tree
	below api.Tree // what is seen of the lower layers alone
}

// upperOf answers the upper layer of a right union, in new memory; since all its layers can be merged, the lower ones can.
func upperOf(u api.Union) *upper {
	below, _ := layer.Merge(u.Lowers)
	return &upper{own: append(api.Tree{}, u.Upper...), below: below}
}

// have lets e stand at its path, and directories above it, where there are none.
func (up *upper) have(e api.Entry) {
	dir, _ := path.Cut(e.Path)
	if above, _ := tree.Get(up.own, dir); above.Kind != api.Dir {
		up.have(api.Entry{Path: dir, Kind: api.Dir})
	}
	at, there := slices.BinarySearchFunc(up.own, e, tree.Compare)
	if !there {
		up.own = slices.Insert(up.own, at, e)
		return
	}
	// What lies below in a directory that had gone must not come back with it.
	old := up.own[at]
	e.Opaque = e.Kind == api.Dir && (old.Opaque || old.Kind == api.White)
	up.own[at] = e
}

// drop takes away what is at p, and below it, and hides what would come to light there.
func (up *upper) drop(p string) {
	up.own = slices.DeleteFunc(up.own, func(e api.Entry) bool { return within(e.Path, p) })
	if _, there := tree.Get(up.below, p); there && !layer.Hides(up.own, p) {
		up.have(api.Entry{Path: p, Kind: api.White})
	}
}

// move takes what is seen at from, and below it, to another path.
func (up *upper) move(seen api.Tree, from, to string) {
	if _, there := tree.Get(seen, to); there {
		up.drop(to)
	}
	up.drop(from)
	for _, e := range seen {
		if within(e.Path, from) {
			e.Path = to + e.Path[len(from):]
			up.have(e)
		}
	}
}

// within tells whether p is top, or lies below it.
func within(p, top string) bool {
	return p == top || path.Under(p, top)
}
