package tree

import (
	"fmt"
	"slices"
	"strings"
	"testing"

	"tracings/api"
)

func file(p, text string) api.Entry { return api.Entry{Path: p, Kind: api.File, Text: text} }
func link(p, text string) api.Entry { return api.Entry{Path: p, Kind: api.Link, Text: text} }
func dir(p string) api.Entry        { return api.Entry{Path: p, Kind: api.Dir} }
func white(p string) api.Entry      { return api.Entry{Path: p, Kind: api.White} }

func opaque(e api.Entry) api.Entry {
	e.Opaque = true
	return e
}

// some is a right tree with something of each kind.
func some() api.Tree {
	return api.Tree{dir("a"), dir("a/b"), file("a/b/c", "x"), link("a/d", "b"), file("e", ""), dir("f")}
}

// many is n files, rising.
func many(n int) api.Tree {
	var t api.Tree
	for i := range n {
		t = append(t, file(fmt.Sprintf("k%03d", i), ""))
	}
	return t
}

// chain is directories in one another below top, which stands first: the last of their paths has n bytes.
func chain(top string, n int) (api.Tree, string) {
	t := api.Tree{dir(top)}
	for len(top) < n {
		name := min(n-len(top)-1, api.MaxName)
		if n-len(top)-1-name == 1 { // one byte alone would be a `/` without a name
			name--
		}
		top += "/" + strings.Repeat("n", name)
		t = append(t, dir(top))
	}
	return t, top
}

// same tells whether an answer is what it must be; want is nil beside an error.
func same(t *testing.T, what string, got api.Tree, err api.Errno, want api.Tree, wantErr api.Errno) {
	t.Helper()
	if err != wantErr || !slices.Equal(got, want) {
		t.Errorf("%s is %v, %d, not %v, %d", what, got, err, want, wantErr)
	}
}

// wrongTrees are trees with what is wrong with them.
func wrongTrees() []struct {
	t    api.Tree
	want api.Fault
} {
	return []struct {
		t    api.Tree
		want api.Fault
	}{
		{many(api.MaxEntries + 1), api.Fault{Err: api.ErrMany}},
		{make(api.Tree, api.MaxEntries+1), api.Fault{Err: api.ErrMany}},
		{api.Tree{{}}, api.Fault{Err: api.ErrKind}},
		{api.Tree{dir("a"), {Path: "a/b", Kind: 5}}, api.Fault{Err: api.ErrKind, At: 1}},
		{api.Tree{dir("a"), {Path: "b", Kind: -1}}, api.Fault{Err: api.ErrKind, At: 1}},
		{api.Tree{file("A", "")}, api.Fault{Err: api.ErrName}},
		{api.Tree{dir("")}, api.Fault{Err: api.ErrName}},
		{api.Tree{dir("a"), dir("a/")}, api.Fault{Err: api.ErrName, At: 1}},
		{api.Tree{dir("a"), dir("b"), file("b/..", "")}, api.Fault{Err: api.ErrName, At: 2}},
		{api.Tree{file("a", strings.Repeat("x", api.MaxText+1))}, api.Fault{Err: api.ErrMuch}},
		{api.Tree{dir("a"), link("a/b", strings.Repeat("x", api.MaxText+1))}, api.Fault{Err: api.ErrMuch, At: 1}},
		{api.Tree{{Path: "a", Kind: api.Dir, Text: "x"}}, api.Fault{Err: api.ErrFit}},
		{api.Tree{link("a", "")}, api.Fault{Err: api.ErrFit}},
		{api.Tree{file("a", ""), opaque(file("b", ""))}, api.Fault{Err: api.ErrFit, At: 1}},
		{api.Tree{opaque(link("a", "b"))}, api.Fault{Err: api.ErrFit}},
		{api.Tree{file("b", ""), file("a", "")}, api.Fault{Err: api.ErrForm, At: 1}},
		{api.Tree{dir("a"), dir("a")}, api.Fault{Err: api.ErrForm, At: 1}},
		{api.Tree{dir("a"), file("a/b", ""), dir("a")}, api.Fault{Err: api.ErrForm, At: 2}},
		{api.Tree{dir("a"), file("a1", ""), file("a/b", "")}, api.Fault{Err: api.ErrForm, At: 2}},
		{api.Tree{file("a/b", "")}, api.Fault{Err: api.ErrNotDir}},
		{api.Tree{dir("a"), file("a/b/c", "")}, api.Fault{Err: api.ErrNotDir, At: 1}},
		{api.Tree{file("a", ""), file("a/b", "")}, api.Fault{Err: api.ErrNotDir, At: 1}},
		{api.Tree{link("a", "b"), file("a/b", ""), dir("b")}, api.Fault{Err: api.ErrNotDir, At: 1}},
		{api.Tree{dir("a"), file("b/c", "")}, api.Fault{Err: api.ErrNotDir, At: 1}},
	}
}
