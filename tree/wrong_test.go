package tree

import (
	"slices"
	"strings"
	"testing"

	"tracings/api"
)

func TestWrongOfRightTrees(t *testing.T) {
	deepest, _ := chain("a", api.MaxPath)
	long := strings.Repeat("x", api.MaxText)
	for _, x := range []api.Tree{
		nil,
		{},
		some(),
		many(api.MaxEntries),
		deepest,
		{file("a", long), link("b", long)},
		{file("a", "\x00\xff/"), link("b", "../A//")},
		{dir("a"), dir("a/b"), dir("a/b/c"), file("a/c", ""), dir("a1"), file("ab", "")},
	} {
		if got := Wrong(x); got != (api.Fault{}) {
			t.Errorf("Wrong(%v) is %v", x, got)
		}
		if got := WrongLayer(x); got != (api.Fault{}) {
			t.Errorf("WrongLayer(%v) is %v", x, got)
		}
	}
}

func TestWrong(t *testing.T) {
	for _, x := range wrongTrees() {
		if got := Wrong(x.t); got != x.want {
			t.Errorf("Wrong(%v) is %v, not %v", x.t, got, x.want)
		}
		if got := WrongLayer(x.t); got != x.want {
			t.Errorf("WrongLayer(%v) is %v, not %v", x.t, got, x.want)
		}
	}
}

// White, and Opaque, are a layer's alone.
func TestWrongOfLayers(t *testing.T) {
	fit, kind := api.Fault{Err: api.ErrFit}, api.Fault{Err: api.ErrKind}
	for _, x := range []struct {
		l           api.Tree
		tree, layer api.Fault
	}{
		{api.Tree{white("a")}, kind, api.Fault{}},
		{api.Tree{opaque(dir("a"))}, fit, api.Fault{}},
		{api.Tree{opaque(dir("a")), white("a/b")}, fit, api.Fault{}},
		{api.Tree{dir("a"), white("a/b")}, api.Fault{Err: api.ErrKind, At: 1}, api.Fault{}},
		{api.Tree{opaque(white("a"))}, kind, fit},
		{api.Tree{{Path: "a", Kind: api.White, Text: "x"}}, kind, fit},
		{api.Tree{white("a/b")}, kind, api.Fault{Err: api.ErrNotDir}},
		{api.Tree{white("a"), white("a/b")}, kind, api.Fault{Err: api.ErrNotDir, At: 1}},
		{api.Tree{white("A")}, kind, api.Fault{Err: api.ErrName}},
		{api.Tree{opaque(dir("A"))}, api.Fault{Err: api.ErrName}, api.Fault{Err: api.ErrName}},
	} {
		if got := Wrong(x.l); got != x.tree {
			t.Errorf("Wrong(%v) is %v, not %v", x.l, got, x.tree)
		}
		if got := WrongLayer(x.l); got != x.layer {
			t.Errorf("WrongLayer(%v) is %v, not %v", x.l, got, x.layer)
		}
	}
}

// Of several faults the first one is told: entry by entry, and of one entry in the chapter's order.
func TestWrongOrder(t *testing.T) {
	long := strings.Repeat("x", api.MaxText+1)
	for _, x := range []struct {
		t    api.Tree
		want api.Fault
	}{
		{append(many(api.MaxEntries), api.Entry{}), api.Fault{Err: api.ErrMany}},
		{append(api.Tree{{}}, many(api.MaxEntries)...), api.Fault{Err: api.ErrMany}},
		{api.Tree{{Path: "A", Text: long, Opaque: true}}, api.Fault{Err: api.ErrKind}},
		{api.Tree{{Path: "A", Kind: api.Dir, Text: long, Opaque: true}}, api.Fault{Err: api.ErrName}},
		{api.Tree{{Path: "a", Kind: api.Dir, Text: long, Opaque: true}}, api.Fault{Err: api.ErrMuch}},
		{api.Tree{dir("b"), {Path: "a", Kind: api.Dir, Text: "x"}}, api.Fault{Err: api.ErrFit, At: 1}},
		{api.Tree{dir("b"), link("a", "")}, api.Fault{Err: api.ErrFit, At: 1}},
		{api.Tree{dir("b"), file("a/c", "")}, api.Fault{Err: api.ErrForm, At: 1}},
		{api.Tree{file("a/c", ""), {}}, api.Fault{Err: api.ErrNotDir}},
		{api.Tree{file("b", ""), file("a", ""), {}}, api.Fault{Err: api.ErrForm, At: 1}},
	} {
		if got := Wrong(x.t); got != x.want {
			t.Errorf("Wrong(%v) is %v, not %v", x.t, got, x.want)
		}
	}
}

// Every call that changes a tree tells what is wrong with it ahead of all else, and answers nothing beside it.
func TestChangesOfWrongTrees(t *testing.T) {
	for _, x := range wrongTrees() {
		for _, e := range []api.Entry{{}, file("zz", ""), file("no/where", ""), link("A", "")} {
			got, err := Put(x.t, e)
			same(t, "Put of a wrong tree", got, err, nil, x.want.Err)
		}
		for _, p := range []string{"", "a", "a/b", "zz", "A"} {
			got, err := Remove(x.t, p)
			same(t, "Remove of a wrong tree", got, err, nil, x.want.Err)
			for _, q := range []string{"", p, "a/b", "zz", "A"} {
				got, err := Move(x.t, p, q)
				same(t, "Move of a wrong tree", got, err, nil, x.want.Err)
			}
		}
	}
}

// Z1: what is not a right tree may be asked as well: the call ends.
func TestAskingWrongTrees(t *testing.T) {
	odd := []api.Tree{many(1 << 16), {dir(""), dir("/"), file("//", "")}}
	for _, x := range wrongTrees() {
		odd = append(odd, x.t)
	}
	for _, x := range odd {
		for _, p := range []string{"", "a", "a/b", "/", "//", "A", strings.Repeat("/a", 1<<16)} {
			if e, there := Get(x, p); !there && e != (api.Entry{}) {
				t.Errorf("Get beside false is %v", e)
			}
			if names, err := List(x, p); err != api.OK && len(names) != 0 {
				t.Errorf("List beside %d is %q", err, names)
			}
		}
	}
}

// Z2: neither a list that is handed in nor its spare room is changed, and no answer shares memory with it.
func TestArgumentsStay(t *testing.T) {
	calls := []struct {
		name string
		call func(api.Tree) (api.Tree, api.Errno)
	}{
		{"Put a new one", func(x api.Tree) (api.Tree, api.Errno) { return Put(x, file("b", "")) }},
		{"Put the last one", func(x api.Tree) (api.Tree, api.Errno) { return Put(x, file("g", "")) }},
		{"Put in its place", func(x api.Tree) (api.Tree, api.Errno) { return Put(x, file("e", "new")) }},
		{"Remove", func(x api.Tree) (api.Tree, api.Errno) { return Remove(x, "e") }},
		{"Remove the last one", func(x api.Tree) (api.Tree, api.Errno) { return Remove(x, "f") }},
		{"Move", func(x api.Tree) (api.Tree, api.Errno) { return Move(x, "a", "f") }},
		{"Move to itself", func(x api.Tree) (api.Tree, api.Errno) { return Move(x, "a", "a") }},
	}
	for _, c := range calls {
		room := append(some(), file("spare", "room"), file("more", "room"))
		before := slices.Clone(room)
		got, err := c.call(room[:6])
		if err != api.OK {
			t.Errorf("%s is %d", c.name, err)
		}
		got = got[:cap(got)]
		for i := range got {
			got[i] = file("other", "")
		}
		if !slices.Equal(room, before) {
			t.Errorf("%s: what was handed in is %v", c.name, room)
		}
	}
}

func TestNamesAreNew(t *testing.T) {
	x := some()
	first, _ := List(x, "a")
	second, _ := List(x, "a")
	clear(first[:cap(first)])
	if !slices.Equal(second, []string{"b", "d"}) {
		t.Errorf("one answer changed is another one changed: %q", second)
	}
}
