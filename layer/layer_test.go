package layer

import (
	"slices"
	"strings"
	"testing"

	"tracings/api"
)

func TestWrongOfRightLayers(t *testing.T) {
	long := strings.Repeat("x", api.MaxText)
	for _, l := range append(readAll(
		"",
		"a/ a/b=x c>a",
		"a-",
		"a/!",
		"a/! a/b- a/c/! a/c/d- a/e/ a/e/f- b- c/",
		"a="+long+" b>"+long,
	), api.Tree{}, many(api.White, 0, api.MaxEntries)) {
		if got := Wrong(l); got != (api.Fault{}) {
			t.Errorf("Wrong(%v) is %v", l, got)
		}
	}
}

func TestWrong(t *testing.T) {
	for _, x := range wrongLayers() {
		if got := Wrong(x.l); got != x.want {
			t.Errorf("Wrong(%v) is %v, not %v", x.l, got, x.want)
		}
	}
}

func TestHides(t *testing.T) {
	for _, x := range []struct {
		l               string
		hidden, through string
	}{
		{"", "", "a a/b"},
		{"a", "a a/b a/b/c", "a1 b"},
		{"a>b", "a a/b", "b b/c"},
		{"a-", "a a/b a/b/c", "b a1/b"},
		{"a/", "", "a a/b a/b/c b"},
		{"a/!", "a/b a/b/c", "a a1 a1/b b"},
		{"a/ a/b-", "a/b a/b/c", "a a/c a/b1 b"},
		{"a/ a/b/!", "a/b/c a/b/c/d", "a a/b a/c b/c"},
		{"a/! a/b/ a/b/c", "a/b a/b/c a/b/d a/e", "a b"},
		{"a/ a/b/ a/c/!", "a/c/d", "a a/b a/b/c a/c"},
	} {
		l := read(x.l)
		for _, p := range strings.Fields(x.hidden) {
			if !Hides(l, p) {
				t.Errorf("%q does not hide %s", x.l, p)
			}
		}
		for _, p := range append(strings.Fields(x.through), "") {
			if Hides(l, p) {
				t.Errorf("%q hides %q", x.l, p)
			}
		}
	}
}

// Z1: nothing is promised of these but that the call ends.
func TestHidesOfWrongInputs(t *testing.T) {
	long := strings.Repeat("/a", 1<<16)
	odd := []api.Tree{{{}}, {{Path: long, Kind: api.Dir, Opaque: true}}, many(api.White, 0, 1<<16)}
	for _, x := range wrongLayers() {
		odd = append(odd, x.l)
	}
	for _, l := range odd {
		for _, p := range []string{"", "/", "//", "a/", "A", "..", "\xff", long} {
			Hides(l, p)
		}
	}
}

func TestOver(t *testing.T) {
	for _, x := range []struct{ l, t, want string }{
		{"", "", ""},
		{"", "a/ a/b=x c>a", "a/ a/b=x c>a"},
		{"a/! a/b- c- d=x e>d", "", "a/ d=x e>d"},
		{"a/! c-", "a/ a/b c", "a/"},
		{"b=x", "a=y c=z", "a=y b=x c=z"},
		{"a=new", "a=old", "a=new"},
		{"a>new", "a=old", "a>new"},
		{"a=new", "a/ a/b a/c/ a/c/d", "a=new"},
		{"a>b", "a/ a/b b", "a>b b"},
		{"a/ a/c", "a=old", "a/ a/c"},
		{"a/ a/c", "a/ a/b a/d", "a/ a/b a/c a/d"},
		{"a/! a/c", "a/ a/b a/d/ a/d/e", "a/ a/c"},
		{"a/! a/d/", "a/ a/b a/d/ a/d/e", "a/ a/d/"},
		{"a/ a/d/!", "a/ a/b a/d/ a/d/e", "a/ a/b a/d/"},
		{"a-", "a/ a/b a1 a1b/ a1b/c", "a1 a1b/ a1b/c"},
		{"a/ a/b-", "a/ a/b/ a/b/c a/d", "a/ a/d"},
		{"a/ a/b- z-", "", "a/"},
		{"a/ a1", "a/ a/b ab", "a/ a/b a1 ab"},
	} {
		got, err := Over(read(x.l), read(x.t))
		same(t, x.l+" over "+x.t, got, err, read(x.want), api.OK)
	}
}

func TestOverCounts(t *testing.T) {
	const most = api.MaxEntries
	none := api.Tree(nil)
	for _, x := range []struct {
		name string
		l, t api.Tree
		want api.Tree
		err  api.Errno
	}{
		{"all of l", many(api.Dir, 0, most), nil, many(api.Dir, 0, most), api.OK},
		{"all of t", nil, many(api.Dir, 0, most), many(api.Dir, 0, most), api.OK},
		{"half of each", many(api.Dir, 0, most/2), many(api.Dir, most/2, most/2), many(api.Dir, 0, most), api.OK},
		{"one too many of l", many(api.Dir, 0, most/2+1), many(api.Dir, most/2+1, most/2), none, api.ErrMany},
		{"one too many of t", many(api.Dir, 0, most/2), many(api.Dir, most/2, most/2+1), none, api.ErrMany},
		{"most of each", many(api.Dir, 0, most), many(api.Dir, most, most), none, api.ErrMany},
		{"the same ones", many(api.Dir, 0, most), many(api.Dir, 0, most), many(api.Dir, 0, most), api.OK},
		{"one that is not the same", many(api.Dir, 0, most), many(api.Dir, 1, most), none, api.ErrMany},
		{"white ones count for nothing", many(api.White, 0, most), many(api.Dir, most, most), many(api.Dir, most, most), api.OK},
		{"hidden ones count for nothing", many(api.White, 0, most), many(api.Dir, 0, most), none, api.OK},
	} {
		got, err := Over(x.l, x.t)
		same(t, x.name, got, err, x.want, x.err)
	}
}

// What is wrong with the layer is told ahead of what is wrong with the tree, and both ahead of all else.
func TestOverOfWrongs(t *testing.T) {
	for _, x := range wrongLayers() {
		for _, below := range []api.Tree{nil, read("a/ a/b"), many(api.File, 0, api.MaxEntries), read("b a"), {{}}} {
			got, err := Over(x.l, below)
			same(t, "Over of a wrong layer", got, err, nil, x.want.Err)
		}
	}
	for _, x := range []struct {
		t    api.Tree
		want api.Errno
	}{
		{many(api.File, 0, api.MaxEntries+1), api.ErrMany},
		{read("a-"), api.ErrKind},
		{read("a/ a/b-"), api.ErrKind},
		{read("A"), api.ErrName},
		{read("a=" + strings.Repeat("x", api.MaxText+1)), api.ErrMuch},
		{read("a/!"), api.ErrFit},
		{read("a>"), api.ErrFit},
		{read("b a"), api.ErrForm},
		{read("a a/b"), api.ErrNotDir},
	} {
		for _, l := range []api.Tree{nil, read("a-"), read("a/! a/b-"), many(api.File, 0, api.MaxEntries)} {
			got, err := Over(l, x.t)
			same(t, "Over a wrong tree", got, err, nil, x.want)
		}
	}
}

func TestMerge(t *testing.T) {
	for _, x := range []struct {
		l    []api.Tree
		want string
	}{
		{nil, ""},
		{[]api.Tree{}, ""},
		{readAll(""), ""},
		{readAll("", "", "", "", ""), ""},
		{readAll("a/! a/b c-"), "a/ a/b"},
		{readAll("a=1", "a=2", "a=3", "a=4", "a=5"), "a=1"},
		{readAll("", "", "", "", "a=5"), "a=5"},
		{readAll("a=1", "b=2", "c=3", "d=4", "e=5"), "a=1 b=2 c=3 d=4 e=5"},
		{readAll("a/ a/b", "a-", "a/ a/c"), "a/ a/b"},
		{readAll("a/ a/b", "a=x", "a/ a/c"), "a/ a/b"},
		{readAll("a-", "a/ a/b"), ""},
		{readAll("a/ a/b", "a/!", "a/ a/c"), "a/ a/b"},
		{readAll("a/!", "a/ a/b", "a/ a/c"), "a/"},
		{readAll("a/ a/b-", "a/ a/b a/c", "a/ a/b a/d"), "a/ a/c a/d"},
		{readAll("a/ a/c", "a/ a/b-", "a/ a/b/ a/b/c"), "a/ a/c"},
	} {
		got, err := Merge(x.l)
		same(t, "Merge", got, err, read(x.want), api.OK)
	}
}

// The layers are asked from the last one on, each one together with those behind it, whatever lies ahead.
func TestMergeOfWrongs(t *testing.T) {
	half := api.MaxEntries / 2
	more := many(api.File, half, half+1)
	for _, x := range []struct {
		name string
		l    []api.Tree
		want api.Errno
	}{
		{"too many layers", make([]api.Tree, api.MaxLowers+2), api.ErrMany},
		{"too many layers, wrong ones", readAll("A", "A", "A", "A", "A", "A"), api.ErrMany},
		{"as many as may be, the first one wrong", readAll("A", "", "", "", ""), api.ErrName},
		{"as many as may be, the last one wrong", readAll("", "", "", "", "A"), api.ErrName},
		{"two wrong ones", readAll("A", "", "b a"), api.ErrForm},
		{"three wrong ones", readAll("A", "b a", "a/b"), api.ErrNotDir},
		{"a wrong one that is hidden", readAll("a-", "a a/b"), api.ErrNotDir},
		{"more than a tree may have", []api.Tree{many(api.File, 0, half), more}, api.ErrMany},
		{"more for a while", []api.Tree{many(api.White, 0, half), many(api.File, 0, half), more}, api.ErrMany},
		{"more, ahead of a wrong one", []api.Tree{many(api.File, 0, half), more, read("A")}, api.ErrName},
		{"more, behind a wrong one", []api.Tree{read("A"), many(api.File, 0, half), more}, api.ErrMany},
	} {
		got, err := Merge(x.l)
		same(t, x.name, got, err, nil, x.want)
	}
	for _, x := range wrongLayers() {
		for _, l := range [][]api.Tree{{x.l}, {x.l, read("a/ a/b"), nil}, {read("a-"), x.l}} {
			got, err := Merge(l)
			same(t, "Merge of a wrong layer", got, err, nil, x.want.Err)
		}
	}
}

// Z2: neither a list that is handed in nor its spare room is changed, and no answer shares memory with it.
func TestArgumentsStay(t *testing.T) {
	for _, x := range []struct{ l, t string }{
		{"", ""},
		{"", "a/ a/b c"},
		{"a/! b- c=x", ""},
		{"a/! b- c=x", "a/ a/b c d"},
		{"b", "a c d"},
	} {
		for _, call := range []func(l, t api.Tree) (api.Tree, api.Errno){
			Over,
			func(l, t api.Tree) (api.Tree, api.Errno) { return Merge([]api.Tree{l}) },
			func(l, t api.Tree) (api.Tree, api.Errno) { return Merge([]api.Tree{t}) },
			func(l, t api.Tree) (api.Tree, api.Errno) { return Merge([]api.Tree{l, nil, t}) },
		} {
			l, below := read(x.l+" spare room"), read(x.t+" spare room")
			got, err := call(l[:len(l)-2], below[:len(below)-2])
			if err != api.OK {
				t.Errorf("%q over %q is %d", x.l, x.t, err)
			}
			clear(got[:cap(got)])
			if !slices.Equal(l, read(x.l+" spare room")) || !slices.Equal(below, read(x.t+" spare room")) {
				t.Errorf("%q over %q: what was handed in is %v, %v", x.l, x.t, l, below)
			}
		}
	}
}

// Z2: the list of layers stays too.
func TestListOfLayersStays(t *testing.T) {
	room := readAll("a/!", "b-", "a/ a/b b", "spare room")
	if _, err := Merge(room[:3]); err != api.OK {
		t.Errorf("Merge is %d", err)
	}
	if !slices.EqualFunc(room, readAll("a/!", "b-", "a/ a/b b", "spare room"), slices.Equal) {
		t.Errorf("what was handed in is %v", room)
	}
}
