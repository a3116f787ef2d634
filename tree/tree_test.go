package tree

import (
	"slices"
	"strings"
	"testing"

	"tracings/api"
)

func TestGet(t *testing.T) {
	for _, e := range some() {
		if got, there := Get(some(), e.Path); !there || got != e {
			t.Errorf("Get(%q) is %v, %v, not %v", e.Path, got, there, e)
		}
	}
	for _, x := range []api.Tree{nil, {}, some()} {
		if got, there := Get(x, ""); !there || got != dir("") {
			t.Errorf("Get of the empty path is %v, %v", got, there)
		}
	}
	for _, p := range []string{"b", "z", "a/a", "a/b/c/d", "e/a", "f/g", "A", "/", "/a", "a/", "a/.", ".", "..", strings.Repeat("a", 100)} {
		if got, there := Get(some(), p); there || got != (api.Entry{}) {
			t.Errorf("Get(%q) is %v, %v", p, got, there)
		}
		if got, there := Get(nil, p); there || got != (api.Entry{}) {
			t.Errorf("Get(%q) of nothing is %v, %v", p, got, there)
		}
	}
}

func TestList(t *testing.T) {
	wide := api.Tree{dir("a"), dir("a/0"), file("a/0/x", ""), file("a/9", ""), dir("a/b"), dir("a/b/b"), file("a/b1", ""), file("a/bb", ""), file("a1", ""), dir("b")}
	for _, x := range []struct {
		t     api.Tree
		p     string
		names []string
		err   api.Errno
	}{
		{some(), "", []string{"a", "e", "f"}, api.OK},
		{some(), "a", []string{"b", "d"}, api.OK},
		{some(), "a/b", []string{"c"}, api.OK},
		{some(), "f", nil, api.OK},
		{nil, "", nil, api.OK},
		{api.Tree{}, "", nil, api.OK},
		{wide, "", []string{"a", "a1", "b"}, api.OK},
		{wide, "a", []string{"0", "9", "b", "b1", "bb"}, api.OK},
		{wide, "a/b", []string{"b"}, api.OK},
		{some(), "a/b/c", nil, api.ErrNotDir},
		{some(), "a/d", nil, api.ErrNotDir},
		{some(), "e", nil, api.ErrNotDir},
		{some(), "e/a", nil, api.ErrNone},
		{some(), "z", nil, api.ErrNone},
		{some(), "A", nil, api.ErrNone},
		{some(), "/", nil, api.ErrNone},
		{some(), "a/", nil, api.ErrNone},
		{nil, "a", nil, api.ErrNone},
	} {
		names, err := List(x.t, x.p)
		if err != x.err || !slices.Equal(names, x.names) {
			t.Errorf("List(%v, %q) is %q, %d, not %q, %d", x.t, x.p, names, err, x.names, x.err)
		}
	}
}

func TestPut(t *testing.T) {
	full := many(api.MaxEntries)
	filled := slices.Clone(full)
	filled[79] = link("k079", "q")
	long := strings.Repeat("x", api.MaxText)
	for _, x := range []struct {
		t    api.Tree
		e    api.Entry
		want api.Tree
	}{
		{nil, file("a", "x"), api.Tree{file("a", "x")}},
		{api.Tree{}, dir("a"), api.Tree{dir("a")}},
		{nil, link("a", "a"), api.Tree{link("a", "a")}},
		{nil, file("a", long), api.Tree{file("a", long)}},
		{nil, link("a", long), api.Tree{link("a", long)}},
		{api.Tree{dir("a"), file("a1", "")}, file("a/b", ""), api.Tree{dir("a"), file("a/b", ""), file("a1", "")}},
		{api.Tree{dir("a")}, dir("0"), api.Tree{dir("0"), dir("a")}},
		{api.Tree{dir("a")}, dir("b"), api.Tree{dir("a"), dir("b")}},
		{api.Tree{dir("a"), file("a/b", "old")}, file("a/b", "new"), api.Tree{dir("a"), file("a/b", "new")}},
		{api.Tree{file("a", "old")}, link("a", "new"), api.Tree{link("a", "new")}},
		{api.Tree{link("a", "old")}, file("a", ""), api.Tree{file("a", "")}},
		{api.Tree{link("a", "old")}, link("a", "new"), api.Tree{link("a", "new")}},
		{some(), dir("a"), some()},
		{full, link("k079", "q"), filled},
		{many(api.MaxEntries - 1), file("k079", ""), full},
	} {
		got, err := Put(x.t, x.e)
		same(t, "Put", got, err, x.want, api.OK)
	}
}

func TestPutRefuses(t *testing.T) {
	long := strings.Repeat("x", api.MaxText+1)
	deepest, end := chain("a", api.MaxPath)
	full := many(api.MaxEntries)
	fullWithDir := append(api.Tree{dir("a")}, full[1:]...)
	for _, x := range []struct {
		t    api.Tree
		e    api.Entry
		want api.Errno
	}{
		{some(), api.Entry{}, api.ErrKind},
		{some(), white("z"), api.ErrKind},
		{some(), api.Entry{Path: "no/A", Kind: 5, Text: long, Opaque: true}, api.ErrKind},
		{some(), dir(""), api.ErrName},
		{some(), file("A", ""), api.ErrName},
		{some(), file("/z", ""), api.ErrName},
		{some(), file("a/../z", ""), api.ErrName},
		{deepest, file(end+"/a", ""), api.ErrName},
		{some(), api.Entry{Path: "no/A", Kind: api.Dir, Text: long, Opaque: true}, api.ErrName},
		{some(), file("z", long), api.ErrMuch},
		{some(), api.Entry{Path: "no/a", Kind: api.Dir, Text: long, Opaque: true}, api.ErrMuch},
		{some(), api.Entry{Path: "z", Kind: api.Dir, Text: "x"}, api.ErrFit},
		{some(), link("z", ""), api.ErrFit},
		{some(), opaque(dir("z")), api.ErrFit},
		{some(), opaque(dir("a")), api.ErrFit},
		{some(), opaque(file("z", "")), api.ErrFit},
		{some(), link("no/a", ""), api.ErrFit},
		{some(), link("e/a", ""), api.ErrFit},
		{some(), file("no/a", ""), api.ErrNone},
		{some(), file("e/a/b", ""), api.ErrNone},
		{nil, dir("a/b"), api.ErrNone},
		{full, file("no/a", ""), api.ErrNone},
		{some(), file("e/a", ""), api.ErrNotDir},
		{some(), dir("a/d/a"), api.ErrNotDir},
		{full, file("k000/a", ""), api.ErrNotDir},
		{some(), file("a", ""), api.ErrName},
		{some(), link("f", "a"), api.ErrName},
		{some(), dir("e"), api.ErrName},
		{some(), dir("a/d"), api.ErrName},
		{full, dir("k000"), api.ErrName},
		{full, file("z", ""), api.ErrMany},
		{fullWithDir, dir("a/b"), api.ErrMany},
	} {
		got, err := Put(x.t, x.e)
		same(t, "Put of "+x.e.Path, got, err, nil, x.want)
	}
}

func TestRemove(t *testing.T) {
	for _, x := range []struct {
		t    api.Tree
		p    string
		want api.Tree
		err  api.Errno
	}{
		{api.Tree{file("a", "x")}, "a", nil, api.OK},
		{some(), "e", api.Tree{dir("a"), dir("a/b"), file("a/b/c", "x"), link("a/d", "b"), dir("f")}, api.OK},
		{some(), "f", some()[:5], api.OK},
		{some(), "a/d", api.Tree{dir("a"), dir("a/b"), file("a/b/c", "x"), file("e", ""), dir("f")}, api.OK},
		{some(), "a/b/c", api.Tree{dir("a"), dir("a/b"), link("a/d", "b"), file("e", ""), dir("f")}, api.OK},
		{api.Tree{dir("a"), dir("a1"), file("a1/b", "")}, "a", api.Tree{dir("a1"), file("a1/b", "")}, api.OK},
		{many(api.MaxEntries), "k079", many(api.MaxEntries - 1), api.OK},
		{nil, "", nil, api.ErrNone},
		{nil, "a", nil, api.ErrNone},
		{some(), "", nil, api.ErrNone},
		{some(), "z", nil, api.ErrNone},
		{some(), "a/b/d", nil, api.ErrNone},
		{some(), "e/a", nil, api.ErrNone},
		{some(), "A", nil, api.ErrNone},
		{some(), "a/", nil, api.ErrNone},
		{some(), "a", nil, api.ErrFull},
		{some(), "a/b", nil, api.ErrFull},
	} {
		got, err := Remove(x.t, x.p)
		same(t, "Remove of "+x.p, got, err, x.want, x.err)
	}
}

// What is put, where nothing was, and removed, leaves the tree as it was.
func TestPutAndRemove(t *testing.T) {
	for _, p := range []string{"0", "a/a", "a/b/a", "a/b/d", "a/z", "b", "f/g", "z"} {
		for _, e := range []api.Entry{file(p, "text"), dir(p), link(p, "a")} {
			put, err := Put(some(), e)
			if got, there := Get(put, p); err != api.OK || !there || got != e {
				t.Errorf("at %q there is %v, %v, %d", p, got, there, err)
			}
			got, err := Remove(put, p)
			same(t, "put and removed", got, err, some(), api.OK)
		}
	}
}
