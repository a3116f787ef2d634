package tree

import (
	"strings"
	"testing"

	"tracings/api"
)

func TestMove(t *testing.T) {
	for _, x := range []struct {
		t        api.Tree
		from, to string
		want     api.Tree
	}{
		{api.Tree{dir("a"), file("a/b", "x")}, "a", "d", api.Tree{dir("d"), file("d/b", "x")}},
		{api.Tree{file("a", "x")}, "a", "b", api.Tree{file("b", "x")}},
		{api.Tree{link("b", "x"), dir("c")}, "b", "c/d", api.Tree{dir("c"), link("c/d", "x")}},
		{api.Tree{dir("a"), dir("a/b"), file("a/b/c", "x")}, "a/b", "c", api.Tree{dir("a"), dir("c"), file("c/c", "x")}},
		{api.Tree{dir("a"), dir("b"), dir("b/a"), file("b/a/b", "x")}, "b/a", "a", api.Tree{dir("a"), file("a/b", "x"), dir("b")}},
		{api.Tree{file("a", "x"), link("b", "y")}, "a", "b", api.Tree{file("b", "x")}},
		{api.Tree{file("a", "x"), link("b", "y")}, "b", "a", api.Tree{link("a", "y")}},
		{api.Tree{dir("a"), file("a/b", ""), file("a1", ""), file("ab", "")}, "a", "b", api.Tree{file("a1", ""), file("ab", ""), dir("b"), file("b/b", "")}},
		{api.Tree{dir("a"), dir("ab"), file("ab/c", "")}, "a", "ab/a", api.Tree{dir("ab"), dir("ab/a"), file("ab/c", "")}},
		{api.Tree{dir("a"), file("a/a", "1"), dir("a/b"), file("a/b/a", "2")}, "a", "ab", api.Tree{dir("ab"), file("ab/a", "1"), dir("ab/b"), file("ab/b/a", "2")}},
		{some(), "a", "a", some()},
		{some(), "a/b/c", "a/b/c", some()},
		{some(), "f", "f", some()},
		{some(), "a", "f", api.Tree{file("e", ""), dir("f"), dir("f/b"), file("f/b/c", "x"), link("f/d", "b")}},
	} {
		got, err := Move(x.t, x.from, x.to)
		same(t, x.from+" moved to "+x.to, got, err, x.want, api.OK)
	}
}

// A full tree may be moved about in: nothing is added.
func TestMoveInFullTree(t *testing.T) {
	got, err := Move(many(api.MaxEntries), "k000", "z")
	same(t, "the first one moved to the end", got, err, append(many(api.MaxEntries)[1:], file("z", "")), api.OK)
}

func TestMoveRefuses(t *testing.T) {
	for _, x := range []struct {
		t        api.Tree
		from, to string
		want     api.Errno
	}{
		{nil, "", "", api.ErrNone},
		{nil, "a", "b", api.ErrNone},
		{some(), "", "z", api.ErrNone},
		{some(), "", "", api.ErrNone},
		{some(), "", "A", api.ErrNone},
		{some(), "z", "y", api.ErrNone},
		{some(), "z", "z", api.ErrNone},
		{some(), "z", "z/a", api.ErrNone},
		{some(), "z", "A", api.ErrNone},
		{some(), "A", "A", api.ErrNone},
		{some(), "e/a", "z", api.ErrNone},
		{some(), "e", "", api.ErrName},
		{some(), "e", "A", api.ErrName},
		{some(), "e", "/e", api.ErrName},
		{some(), "e", "e/", api.ErrName},
		{some(), "a", "a/B", api.ErrName},
		{some(), "e", "no/A", api.ErrName},
		{some(), "e", strings.Repeat("z", api.MaxName+1), api.ErrName},
		{some(), "a", "a/z", api.ErrFit},
		{some(), "a", "a/b", api.ErrFit},
		{some(), "a", "a/b/c", api.ErrFit},
		{some(), "a", "a/no/z", api.ErrFit},
		{some(), "e", "e/a", api.ErrFit},
		{some(), "e", "no/z", api.ErrNone},
		{some(), "e", "a/b/c/d/z", api.ErrNone},
		{some(), "a", "no/z", api.ErrNone},
		{some(), "f", "e/z", api.ErrNotDir},
		{some(), "f", "a/d/z", api.ErrNotDir},
		{some(), "e", "f", api.ErrDir},
		{some(), "e", "a", api.ErrDir},
		{some(), "a/d", "a", api.ErrDir},
		{some(), "a/d", "f", api.ErrDir},
		{some(), "a/b/c", "a/b", api.ErrDir},
		{some(), "f", "e", api.ErrNotDir},
		{some(), "a", "e", api.ErrNotDir},
		{some(), "f", "a/d", api.ErrNotDir},
		{some(), "f", "a", api.ErrFull},
		{some(), "f", "a/b", api.ErrFull},
		{some(), "a/b", "a", api.ErrFull},
	} {
		got, err := Move(x.t, x.from, x.to)
		same(t, x.from+" moved to "+x.to, got, err, nil, x.want)
	}
}

// Moved below another one, the deepest path may have MaxPath bytes, and not one more.
func TestMoveOfLongPaths(t *testing.T) {
	for _, x := range []struct {
		bytes int
		want  api.Errno
	}{
		{api.MaxPath - 1, api.OK},
		{api.MaxPath, api.OK},
		{api.MaxPath + 1, api.ErrMuch},
		{api.MaxPath + 2, api.ErrMuch},
	} {
		what := api.Tree{dir("a"), dir("a/bcd"), file("a/bcd/ef", "x"), file("a/z", "")}
		deep, end := chain("b", x.bytes-len("/a/bcd/ef"))
		got, err := Move(append(what, deep...), "a", end+"/a")
		var want api.Tree
		if x.want == api.OK {
			want = append(deep, dir(end+"/a"), dir(end+"/a/bcd"), file(end+"/a/bcd/ef", "x"), file(end+"/a/z", ""))
		}
		same(t, "a moved down", got, err, want, x.want)
	}
}

// ErrMuch comes last, and also where something is in the place already.
func TestMoveOfLongPathsOrder(t *testing.T) {
	what := api.Tree{dir("a"), dir("a/abcdefghij"), file("a/abcdefghij/abcdefghij", "x")}
	deep, end := chain("b", 70)
	for _, x := range []struct {
		more []api.Entry
		to   string
		want api.Errno
	}{
		{nil, "c", api.ErrMuch},
		{[]api.Entry{dir("c")}, "c", api.ErrMuch},
		{[]api.Entry{file("c", "")}, "c", api.ErrNotDir},
		{[]api.Entry{dir("c"), file("c/d", "")}, "c", api.ErrFull},
		{[]api.Entry{file("c", "")}, "c/d", api.ErrNotDir},
		{nil, "c/d", api.ErrNone},
	} {
		all := append(append(api.Tree{}, what...), deep...)
		for _, e := range x.more {
			e.Path = end + "/" + e.Path
			all = append(all, e)
		}
		got, err := Move(all, "a", end+"/"+x.to)
		same(t, "a moved far down", got, err, nil, x.want)
	}
}

// What is moved where nothing was, and back, is where it was.
func TestMovedAndBack(t *testing.T) {
	for _, e := range some() {
		for _, to := range []string{"0", "a0", "f/g", "z", "a/z", "a/b/z"} {
			if strings.HasPrefix(to, e.Path+"/") {
				continue // nothing is moved below itself
			}
			there, err := Move(some(), e.Path, to)
			if err != api.OK || Wrong(there) != (api.Fault{}) {
				t.Errorf("%q moved to %q is %v, %d", e.Path, to, there, err)
			}
			back, err := Move(there, to, e.Path)
			same(t, e.Path+" moved to "+to+" and back", back, err, some(), api.OK)
		}
	}
}
