package layer

import (
	"fmt"
	"slices"
	"strings"
	"testing"

	"tracings/api"
)

// read reads entries with blanks between: `a/` is a Dir, `a/!` an Opaque one, `a-` is White, `a>b` a Link to b, `a=x` a File with x in it, and `a` an empty one.
func read(s string) api.Tree {
	var l api.Tree
	for _, w := range strings.Fields(s) {
		l = append(l, readOne(w))
	}
	return l
}

func readOne(w string) api.Entry {
	if p, ok := strings.CutSuffix(w, "/!"); ok {
		return api.Entry{Path: p, Kind: api.Dir, Opaque: true}
	}
	if p, ok := strings.CutSuffix(w, "/"); ok {
		return api.Entry{Path: p, Kind: api.Dir}
	}
	if p, ok := strings.CutSuffix(w, "-"); ok {
		return api.Entry{Path: p, Kind: api.White}
	}
	if p, text, ok := strings.Cut(w, ">"); ok {
		return api.Entry{Path: p, Kind: api.Link, Text: text}
	}
	p, text, _ := strings.Cut(w, "=")
	return api.Entry{Path: p, Kind: api.File, Text: text}
}

func readAll(l ...string) []api.Tree {
	var out []api.Tree
	for _, s := range l {
		out = append(out, read(s))
	}
	return out
}

// many is n entries of a kind, rising from number first on.
func many(kind, first, n int) api.Tree {
	var l api.Tree
	for i := range n {
		l = append(l, api.Entry{Path: fmt.Sprintf("k%03d", first+i), Kind: kind})
	}
	return l
}

// same tells whether an answer is what it must be; want is nil beside an error.
func same(t *testing.T, what string, got api.Tree, err api.Errno, want api.Tree, wantErr api.Errno) {
	t.Helper()
	if err != wantErr || !slices.Equal(got, want) {
		t.Errorf("%s is %v, %d, not %v, %d", what, got, err, want, wantErr)
	}
}

type wrong struct {
	l    api.Tree
	want api.Fault
}

// wrongLayers are layers with what is wrong with them: one refusal at least of each kind, and of several the first one.
func wrongLayers() []wrong {
	long := strings.Repeat("x", api.MaxText+1)
	fault := func(err api.Errno, at int) api.Fault { return api.Fault{Err: err, At: at} }
	return []wrong{
		{many(api.White, 0, api.MaxEntries+1), fault(api.ErrMany, 0)},
		{make(api.Tree, api.MaxEntries+1), fault(api.ErrMany, 0)},
		{api.Tree{{Path: "A", Text: long, Opaque: true}}, fault(api.ErrKind, 0)},
		{api.Tree{{Path: "a", Kind: api.White}, {Path: "b", Kind: 5}}, fault(api.ErrKind, 1)},
		{api.Tree{{Path: "a", Kind: api.White}, {Path: "b", Kind: -1}}, fault(api.ErrKind, 1)},
		{api.Tree{{Path: "A", Kind: api.White, Text: long, Opaque: true}}, fault(api.ErrName, 0)},
		{api.Tree{{Kind: api.Dir, Opaque: true}}, fault(api.ErrName, 0)},
		{read("a/! a//-"), fault(api.ErrName, 1)},
		{api.Tree{{Path: "a", Kind: api.White, Text: long, Opaque: true}}, fault(api.ErrMuch, 0)},
		{read("a/! a/b=" + long), fault(api.ErrMuch, 1)},
		{api.Tree{{Path: "a", Kind: api.White, Text: "x"}}, fault(api.ErrFit, 0)},
		{api.Tree{{Path: "a", Kind: api.White, Opaque: true}}, fault(api.ErrFit, 0)},
		{api.Tree{{Path: "a", Kind: api.File, Opaque: true}}, fault(api.ErrFit, 0)},
		{api.Tree{{Path: "a", Kind: api.Link, Text: "x", Opaque: true}}, fault(api.ErrFit, 0)},
		{api.Tree{{Path: "a", Kind: api.Dir, Text: "x", Opaque: true}}, fault(api.ErrFit, 0)},
		{read("b- a>"), fault(api.ErrFit, 1)},
		{read("a- a-"), fault(api.ErrForm, 1)},
		{read("b- a-"), fault(api.ErrForm, 1)},
		{read("b/! a/c-"), fault(api.ErrForm, 1)},
		{read("a/! a1- a/b-"), fault(api.ErrForm, 2)},
		{read("a/b-"), fault(api.ErrNotDir, 0)},
		{read("a- a/b-"), fault(api.ErrNotDir, 1)},
		{read("a a/b- A"), fault(api.ErrNotDir, 1)},
		{read("a>b a/b- b/!"), fault(api.ErrNotDir, 1)},
		{read("a/! a/b/c-"), fault(api.ErrNotDir, 1)},
	}
}
