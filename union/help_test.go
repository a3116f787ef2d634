package union

import (
	"fmt"
	"slices"
	"strings"
	"testing"

	"tracings/api"
)

// read reads entries with blanks between: `a/` is a Dir, `a/!` an Opaque one, `a-` is White, `a>b` a Link to b, `a=x` a File with x in it, and `a` an empty one.
func read(s string) api.Tree {
	var l api.Tree
	for _, w := range strings.Fields(s) {
		l = append(l, readOne(w))
	}
	return l
}

func readOne(w string) api.Entry {
	if p, ok := strings.CutSuffix(w, "/!"); ok {
		return api.Entry{Path: p, Kind: api.Dir, Opaque: true}
	}
	if p, ok := strings.CutSuffix(w, "/"); ok {
		return api.Entry{Path: p, Kind: api.Dir}
	}
	if p, ok := strings.CutSuffix(w, "-"); ok {
		return api.Entry{Path: p, Kind: api.White}
	}
	if p, text, ok := strings.Cut(w, ">"); ok {
		return api.Entry{Path: p, Kind: api.Link, Text: text}
	}
	p, text, _ := strings.Cut(w, "=")
	return api.Entry{Path: p, Kind: api.File, Text: text}
}

// readUnion reads layers with `|` between, the upper one first.
func readUnion(s string) api.Union {
	var all []api.Tree
	for _, l := range strings.Split(s, "|") {
		all = append(all, read(l))
	}
	return of(all...)
}

// of is the union of these layers, the upper one first.
func of(all ...api.Tree) api.Union {
	return api.Union{Upper: all[0], Lowers: all[1:]}
}

// many is n entries of a kind, rising from number first on.
func many(kind, first, n int) api.Tree {
	var l api.Tree
	for i := range n {
		l = append(l, api.Entry{Path: fmt.Sprintf("k%03d", first+i), Kind: kind})
	}
	return l
}

// in is a Dir, and these entries in it.
func in(dir string, l api.Tree) api.Tree {
	out := read(dir + "/")
	for _, e := range l {
		e.Path = dir + "/" + e.Path
		out = append(out, e)
	}
	return out
}

// chain is directories in one another, and the path of the last one, of n bytes; n is odd.
func chain(n int) (api.Tree, string) {
	p := "n"
	l := read("n/")
	for len(p) < n {
		p += "/n"
		l = append(l, readOne(p+"/"))
	}
	return l, p
}

func joined(l ...api.Tree) api.Tree {
	return slices.Concat(l...)
}

// equal takes nil and a list without entries for the same.
func equal(a, b api.Union) bool {
	return slices.Equal(a.Upper, b.Upper) && slices.EqualFunc(a.Lowers, b.Lowers, slices.Equal)
}

// cloned is u in other memory.
func cloned(u api.Union) api.Union {
	var lowers []api.Tree
	for _, l := range u.Lowers {
		lowers = append(lowers, slices.Clone(l))
	}
	return api.Union{Upper: slices.Clone(u.Upper), Lowers: lowers}
}

// call is one of Put, Remove and Move, with all but the union.
type call struct {
	name string
	make func(api.Union) (api.Union, api.Errno)
}

func put(e api.Entry) call {
	return call{fmt.Sprintf("Put of %v", e), func(u api.Union) (api.Union, api.Errno) { return Put(u, e) }}
}

func remove(p string) call {
	return call{fmt.Sprintf("Remove of %q", p), func(u api.Union) (api.Union, api.Errno) { return Remove(u, p) }}
}

func move(from, to string) call {
	return call{fmt.Sprintf("Move of %q to %q", from, to), func(u api.Union) (api.Union, api.Errno) { return Move(u, from, to) }}
}

// becomes makes the call, and holds the answer against the union whose upper layer is this, and whose lower layers are those of u; u itself must stay.
func becomes(t *testing.T, u api.Union, c call, want api.Tree) {
	t.Helper()
	before := cloned(u)
	got, err := c.make(u)
	if err != api.OK || !equal(got, api.Union{Upper: want, Lowers: before.Lowers}) {
		t.Errorf("%s in %v is %v, %d, not %v", c.name, before, got, err, want)
	}
	if !equal(u, before) {
		t.Errorf("%s changed %v into %v", c.name, before, u)
	}
}

// refuses makes the call, and holds the answer against that errno, and nothing beside it; u must stay.
func refuses(t *testing.T, u api.Union, c call, want api.Errno) {
	t.Helper()
	before := cloned(u)
	got, err := c.make(u)
	if err != want || len(got.Upper) != 0 || len(got.Lowers) != 0 {
		t.Errorf("%s in %v is %v, %d, not %d", c.name, before, got, err, want)
	}
	if !equal(u, before) {
		t.Errorf("%s changed %v into %v", c.name, before, u)
	}
}

type wrong struct {
	u    api.Union
	want api.Fault
}

// wrongUnions are unions with what is wrong with them: one refusal at least of each kind, and of several the first one.
func wrongUnions() []wrong {
	const half = api.MaxEntries / 2
	long := strings.Repeat("x", api.MaxText+1)
	fault := func(err api.Errno, at int) api.Fault { return api.Fault{Err: err, At: at} }
	tooMuch := []api.Tree{many(api.File, 0, half), many(api.File, half, half+1)}
	return []wrong{
		{api.Union{Lowers: make([]api.Tree, api.MaxLowers+1)}, fault(api.ErrMany, 0)},
		{readUnion("A | A | A | A | A | A"), fault(api.ErrMany, 0)},
		{api.Union{Upper: read("a a"), Lowers: make([]api.Tree, api.MaxLowers+2)}, fault(api.ErrMany, 0)},
		{of(many(api.White, 0, api.MaxEntries+1)), fault(api.ErrMany, 0)},
		{of(nil, nil, many(api.White, 0, api.MaxEntries+1)), fault(api.ErrMany, 2)},
		{of(api.Tree{{Path: "a", Kind: 5}}, read("A")), fault(api.ErrKind, 0)},
		{of(read("a- b/!"), api.Tree{{Path: "a"}}), fault(api.ErrKind, 1)},
		{readUnion("A | b a"), fault(api.ErrName, 0)},
		{readUnion("a/ | a/ | a/ | a/ | a/ a/-"), fault(api.ErrName, 4)},
		{of(nil, read("a="+long), read("a/b")), fault(api.ErrMuch, 1)},
		{readUnion("a> | b a"), fault(api.ErrFit, 0)},
		{of(nil, nil, api.Tree{{Path: "a", Kind: api.White, Opaque: true}}), fault(api.ErrFit, 2)},
		{of(nil, nil, nil, api.Tree{{Path: "a", Kind: api.White, Text: "x"}}), fault(api.ErrFit, 3)},
		{readUnion("b- a-"), fault(api.ErrForm, 0)},
		{readUnion("c/ d c- | A"), fault(api.ErrForm, 0)},
		{readUnion(" | a | b a"), fault(api.ErrForm, 2)},
		{readUnion("a/b | a/"), fault(api.ErrNotDir, 0)},
		{readUnion("a- | a a/b"), fault(api.ErrNotDir, 1)},
		{readUnion(" | | | b/ b/c | a- a/b"), fault(api.ErrNotDir, 4)},
		{of(tooMuch...), fault(api.ErrMany, 0)},
		{of(nil, nil, tooMuch[0], tooMuch[1]), fault(api.ErrMany, 0)},
		{of(many(api.White, 0, half), tooMuch[0], tooMuch[1]), fault(api.ErrMany, 0)},
		{of(many(api.File, 0, api.MaxEntries), read("a")), fault(api.ErrMany, 0)},
		{of(tooMuch[0], tooMuch[1], read("a/b")), fault(api.ErrNotDir, 2)},
		{of(read("A"), tooMuch[0], tooMuch[1]), fault(api.ErrName, 0)},
	}
}

// rightUnions are unions in which there is nothing wrong, at the edges too.
func rightUnions() []api.Union {
	const most = api.MaxEntries
	return []api.Union{
		{},
		{Upper: api.Tree{}, Lowers: []api.Tree{}},
		{Lowers: make([]api.Tree, api.MaxLowers)},
		readUnion("a/! a/b- c-"),
		readUnion("a- | a/ a/b | a/! b-"),
		readUnion("a/ a/b | a | a/ a/b/ a/b/c"),
		readUnion("a=1 | b=2 | c=3 | d=4 | e=5"),
		of(many(api.File, 0, most), many(api.Dir, 0, most), many(api.White, 0, most), many(api.File, 0, most), many(api.File, 0, most)),
		of(many(api.White, most, most), many(api.File, 0, most)),
		of(many(api.File, 0, most/2), many(api.File, most/2, most/2)),
	}
}
