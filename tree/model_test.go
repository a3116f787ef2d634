package tree

import (
	"slices"
	"strings"
	"testing"

	"tracings/api"
)

// model is a tree as the chapter speaks of it: what is at which path, in no order.
type model map[string]api.Entry

func modelOf(t api.Tree) model {
	m := model{"": dir("")}
	for _, e := range t {
		m[e.Path] = e
	}
	return m
}

func (m model) tree() api.Tree {
	var t api.Tree
	for p, e := range m {
		if p != "" {
			t = append(t, e)
		}
	}
	slices.SortFunc(t, func(a, b api.Entry) int {
		return slices.Compare(strings.Split(a.Path, "/"), strings.Split(b.Path, "/"))
	})
	return t
}

func (m model) dirOf(p string) api.Errno {
	up := p[:max(0, strings.LastIndex(p, "/"))]
	e, there := m[up]
	if !there {
		return api.ErrNone
	}
	if e.Kind != api.Dir {
		return api.ErrNotDir
	}
	return api.OK
}

func (m model) full(p string) bool {
	for q := range m {
		if strings.HasPrefix(q, p+"/") {
			return true
		}
	}
	return false
}

func (m model) put(e api.Entry) api.Errno {
	if err := m.dirOf(e.Path); err != api.OK {
		return err
	}
	if old, there := m[e.Path]; there && (old.Kind == api.Dir) != (e.Kind == api.Dir) {
		return api.ErrName
	}
	m[e.Path] = e
	return api.OK
}

func (m model) remove(p string) api.Errno {
	if _, there := m[p]; !there {
		return api.ErrNone
	}
	if m.full(p) {
		return api.ErrFull
	}
	delete(m, p)
	return api.OK
}

func (m model) move(from, to string) api.Errno {
	what, there := m[from]
	if !there {
		return api.ErrNone
	}
	if from == to {
		return api.OK
	}
	if strings.HasPrefix(to, from+"/") {
		return api.ErrFit
	}
	if err := m.dirOf(to); err != api.OK {
		return err
	}
	if old, there := m[to]; there {
		if old.Kind == api.Dir && what.Kind != api.Dir {
			return api.ErrDir
		}
		if old.Kind != api.Dir && what.Kind == api.Dir {
			return api.ErrNotDir
		}
		if m.full(to) {
			return api.ErrFull
		}
	}
	for _, e := range m.tree() {
		if e.Path == from || strings.HasPrefix(e.Path, from+"/") {
			delete(m, e.Path)
			e.Path = to + strings.TrimPrefix(e.Path, from)
			m[e.Path] = e
		}
	}
	return api.OK
}

// modelPaths rise; some are others' directories, and some begin with others' bytes.
func modelPaths() []string { return []string{"a", "a/b", "a/b/c", "a/d", "ab", "ab/c", "b"} }

// allTrees are all right trees of these paths, with a File, a Dir, a Link, or nothing at each.
func allTrees(paths []string) []api.Tree {
	all := []api.Tree{nil}
	for _, p := range paths {
		for _, t := range all {
			if modelOf(t).dirOf(p) != api.OK {
				continue
			}
			for _, e := range []api.Entry{file(p, "text of "+p), dir(p), link(p, "to "+p)} {
				all = append(all, append(slices.Clone(t), e))
			}
		}
	}
	return all
}

func TestAgainstModel(t *testing.T) {
	for _, x := range allTrees(modelPaths()) {
		if got := Wrong(x); got != (api.Fault{}) {
			t.Fatalf("Wrong(%v) is %v", x, got)
		}
		for _, p := range append(modelPaths(), "0", "c/d") {
			for _, e := range []api.Entry{file(p, "new"), dir(p), link(p, "new")} {
				m := modelOf(x)
				want := m.put(e)
				got, err := Put(x, e)
				likeModel(t, got, err, m, want)
			}
			m := modelOf(x)
			want := m.remove(p)
			got, err := Remove(x, p)
			likeModel(t, got, err, m, want)
			for _, q := range append(modelPaths(), "0", "c/d") {
				m := modelOf(x)
				want := m.move(p, q)
				got, err := Move(x, p, q)
				likeModel(t, got, err, m, want)
			}
		}
	}
}

func likeModel(t *testing.T, got api.Tree, err api.Errno, m model, want api.Errno) {
	t.Helper()
	var tree api.Tree
	if want == api.OK {
		tree = m.tree()
	}
	if err != want || !slices.Equal(got, tree) {
		t.Fatalf("%v, %d comes, not %v, %d", got, err, tree, want)
	}
}
