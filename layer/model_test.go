package layer

import (
	"slices"
	"strings"
	"testing"

	"tracings/api"
	"tracings/tree"
)

// modelPaths rise; some are others' directories, and some begin with others' bytes.
func modelPaths() []string { return []string{"a", "a/b", "a/b/c", "ab", "ab/c"} }

// allOf are all right layers of these paths, with nothing at each, or an entry that ends in one of these ways.
func allOf(paths []string, ends ...string) []api.Tree {
	all := []api.Tree{nil}
	for _, p := range paths {
		for _, l := range all {
			if up := p[:max(0, strings.LastIndex(p, "/"))]; up != "" && at(l, up).Kind != api.Dir {
				continue
			}
			for _, end := range ends {
				all = append(all, append(slices.Clone(l), readOne(p+end)))
			}
		}
	}
	return all
}

func at(l api.Tree, p string) api.Entry {
	for _, e := range l {
		if e.Path == p {
			return e
		}
	}
	return api.Entry{}
}

// modelHides goes down to p, and asks at each step whether l lets one go on.
func modelHides(l api.Tree, p string) bool {
	for i := range len(p) + 1 {
		if i < len(p) && p[i] != '/' {
			continue
		}
		e := at(l, p[:i])
		there := e != (api.Entry{})
		if there && e.Kind != api.Dir || there && e.Opaque && i < len(p) {
			return true
		}
	}
	return false
}

// modelSeen asks path by path, without a tree of what is seen.
func modelSeen(l, below api.Tree) api.Tree {
	var seen api.Tree
	for _, p := range modelPaths() {
		e := at(l, p)
		if e == (api.Entry{}) && !modelHides(l, p) {
			e = at(below, p)
		}
		e.Opaque = false
		if e != (api.Entry{}) && e.Kind != api.White {
			seen = append(seen, e)
		}
	}
	return seen
}

func TestAgainstModel(t *testing.T) {
	layers := allOf(modelPaths(), "=upper", ">upper", "/", "/!", "-")
	trees := allOf(modelPaths(), "=lower", "/")
	for _, l := range layers {
		if got := Wrong(l); got != (api.Fault{}) {
			t.Fatalf("Wrong(%v) is %v", l, got)
		}
		for _, p := range append(modelPaths(), "", "0", "a/b/c/d", "ab/c/d") {
			if got := Hides(l, p); got != modelHides(l, p) {
				t.Fatalf("Hides(%v, %q) is %t", l, p, got)
			}
		}
		for _, below := range trees {
			got, err := Over(l, below)
			if want := modelSeen(l, below); err != api.OK || !slices.Equal(got, want) {
				t.Fatalf("Over(%v, %v) is %v, %d, not %v", l, below, got, err, want)
			}
			if fault := tree.Wrong(got); fault != (api.Fault{}) {
				t.Fatalf("Over(%v, %v) is wrong: %v", l, below, fault)
			}
		}
	}
}

// What comes of it: a layer over what is seen is as one layer more, and a clear one is none.
func TestTwoByTwo(t *testing.T) {
	layers := allOf([]string{"a", "a/b", "c"}, "=x", "/", "/!", "-")
	for _, l := range layers {
		for _, m := range layers {
			seen, err := Merge([]api.Tree{l, m})
			below, _ := Merge([]api.Tree{m})
			over, overErr := Over(l, below)
			same(t, "two layers", over, overErr, seen, err)
			again, againErr := Merge([]api.Tree{nil, l, {}, m, nil})
			same(t, "clear layers between", again, againErr, seen, err)
			for _, n := range layers[:10] {
				all, err := Merge([]api.Tree{n, l, m})
				over, overErr := Over(n, seen)
				same(t, "three layers", over, overErr, all, err)
			}
		}
	}
}
