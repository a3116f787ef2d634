package union

import (
	"strings"
	"testing"

	"tracings/api"
)

func TestPut(t *testing.T) {
	for _, x := range []struct{ u, e, want string }{
		{"", "a=x", "a=x"},
		{"", "a/", "a/"},
		{"", "a>b", "a>b"},
		{"b", "a", "a b"},
		{"a=old", "a=new", "a=new"},
		{"a=old", "a>new", "a>new"},
		{"a/ a/b", "a/", "a/ a/b"},
		{"|", "a=x", "a=x"},
		{"| a=old", "a=new", "a=new"},
		{"| a=old", "a>new", "a>new"},
		{"| a/ a/b", "a/", "a/"},
		{"| a/ a/b=old", "a/b=new", "a/ a/b=new"},
		{"| a/ | a/ a/b/ | a/ a/b/ a/b/c/", "a/b/c/d", "a/ a/b/ a/b/c/ a/b/c/d"},
		{"| a/! | a/", "a/b", "a/ a/b"},
		{"a/ a1 | a/ a/b/", "a/b/c", "a/ a/b/ a/b/c a1"},
		{"a- | a=old", "a=new", "a=new"},
		{"a- | a/ a/b", "a=new", "a=new"},
		{"a- | a=old", "a>new", "a>new"},
		{"a- | a/ a/b", "a/", "a/!"},
		{"a- | a=old", "a/", "a/!"},
		{"a-", "a/", "a/!"},
		{"a/! | a/ a/b", "a/", "a/!"},
		{"a/!", "a/", "a/!"},
		{"a/! a/c | a/ a/b", "a/", "a/! a/c"},
		{"a/! | a/ a/b", "a/b=new", "a/! a/b=new"},
		{"a/! | a/ a/b/", "a/b/", "a/! a/b/"},
		{"a/ a/b- | a/ a/b/ a/b/c", "a/b/", "a/ a/b/!"},
		{"a/! a/b-", "a/b/", "a/! a/b/!"},
	} {
		becomes(t, readUnion(x.u), put(readOne(x.e)), read(x.want))
	}
}

func TestPutRefuses(t *testing.T) {
	long := strings.Repeat("x", api.MaxText+1)
	u := readUnion("a/ a/b- c- d/! | a/ a/b a/e=x c d/ d/f | g/ g/h h>g")
	for _, x := range []struct {
		e    api.Entry
		want api.Errno
	}{
		{api.Entry{}, api.ErrKind},
		{readOne("z-"), api.ErrKind},
		{api.Entry{Path: "A", Kind: api.White, Text: long, Opaque: true}, api.ErrKind},
		{api.Entry{Path: "z", Kind: 5}, api.ErrKind},
		{api.Entry{Path: "", Kind: api.Dir}, api.ErrName},
		{api.Entry{Path: "A", Kind: api.Dir, Text: long, Opaque: true}, api.ErrName},
		{readOne("a/e/"), api.ErrName},
		{readOne("a//"), api.ErrName},
		{api.Entry{Path: "no/z", Kind: api.Dir, Text: long, Opaque: true}, api.ErrMuch},
		{readOne("z=" + long), api.ErrMuch},
		{readOne("a/e/z/!"), api.ErrFit},
		{readOne("d/!"), api.ErrFit},
		{readOne("no/z>"), api.ErrFit},
		{api.Entry{Path: "g", Kind: api.Dir, Text: "x"}, api.ErrFit},
		{readOne("no/z"), api.ErrNone},
		{readOne("a/b/z"), api.ErrNone},
		{readOne("c/z/"), api.ErrNone},
		{readOne("d/f/z"), api.ErrNone},
		{readOne("a/e/z"), api.ErrNotDir},
		{readOne("h/z/"), api.ErrNotDir},
		{readOne("g/h/z"), api.ErrNotDir},
		{readOne("a"), api.ErrName},
		{readOne("g>a"), api.ErrName},
		{readOne("h/"), api.ErrName},
		{readOne("g/h/"), api.ErrName},
	} {
		refuses(t, u, put(x.e), x.want)
	}
}

func TestPutCounts(t *testing.T) {
	const most = api.MaxEntries
	becomes(t, of(many(api.File, 0, most-1)), put(readOne("z")), joined(many(api.File, 0, most-1), read("z")))
	refuses(t, of(many(api.File, 0, most)), put(readOne("z")), api.ErrMany)
	refuses(t, of(nil, many(api.File, 0, most)), put(readOne("z")), api.ErrMany)
	refuses(t, of(many(api.File, 0, 1), many(api.File, 1, most-1)), put(readOne("z/")), api.ErrMany)
	becomes(t, of(nil, many(api.File, 0, most)), put(readOne("k000=x")), read("k000=x"))

	// Nothing may be added to a full upper layer, though hardly anything is seen; in the place of what it has, something may.
	whites := many(api.White, 0, most)
	refuses(t, of(whites), put(readOne("z")), api.ErrMany)
	becomes(t, of(whites), put(readOne("k000/")), joined(read("k000/!"), many(api.White, 1, most-1)))
	becomes(t, of(whites[1:]), put(readOne("z")), joined(whites[1:], read("z")))

	// The directories that the upper layer must have count too.
	deep := read("a/ a/b/ a/b/c/")
	becomes(t, of(whites[4:], deep), put(readOne("a/b/c/d")), joined(deep, read("a/b/c/d"), whites[4:]))
	refuses(t, of(whites[3:], deep), put(readOne("a/b/c/d")), api.ErrMany)
}

func TestRemove(t *testing.T) {
	for _, x := range []struct{ u, p, want string }{
		{"a", "a", ""},
		{"a/ a/b c", "a/b", "a/ c"},
		{"a/", "a", ""},
		{"a/!", "a", ""},
		{"a>b |", "a", ""},
		{"a | b", "a", ""},
		{"| a", "a", "a-"},
		{"| a/", "a", "a-"},
		{"| a>b", "a", "a-"},
		{"a=new | a=old", "a", "a-"},
		{"a=new | a/ a/b", "a", "a-"},
		{"a/ | a=old", "a", "a-"},
		{"| a/ a/b", "a/b", "a/ a/b-"},
		{"| a/ a/b/ a/b/c", "a/b/c", "a/ a/b/ a/b/c-"},
		{"| a/! a/b", "a/b", "a/ a/b-"},
		{"a/ a/b | a/", "a/b", "a/"},
		{"a/ a/b | a/ a/b", "a/b", "a/ a/b-"},
		{"a/! a/b | a/ a/b", "a/b", "a/!"},
		{"a/! a/b/ a/b/c | a/ a/b/ a/b/c", "a/b/c", "a/! a/b/"},
		{"a/! a/b/ | a/ a/b/ a/b/c", "a/b", "a/!"},
		{"a/! | a/ a/b", "a", "a-"},
		{"a/ a/b- a/c- | a/ a/b a/c", "a", "a-"},
		{"a/ a/b-", "a", ""},
		{"a/! a/b- | b", "a", ""},
		{"a | a- | a", "a", ""},
		{"a/ a/b | a/! | a/ a/b", "a/b", "a/"},
		{"| a | a", "a", "a-"},
		{"a- c | b", "b", "a- b- c"},
		{"a1 | a/ a/b", "a/b", "a/ a/b- a1"},
	} {
		becomes(t, readUnion(x.u), remove(x.p), read(x.want))
	}
}

func TestRemoveRefuses(t *testing.T) {
	u := readUnion("a/ a/b- c- d/! i/ i/j | a/ a/b a/e c d/ d/f i/ | g/ g/h h>g")
	for _, x := range []struct {
		p    string
		want api.Errno
	}{
		{"", api.ErrNone},
		{"no", api.ErrNone},
		{"A", api.ErrNone},
		{"/a", api.ErrNone},
		{"a/", api.ErrNone},
		{"c", api.ErrNone},
		{"a/b", api.ErrNone},
		{"d/f", api.ErrNone},
		{"a/e/z", api.ErrNone},
		{strings.Repeat("a/", 1<<16), api.ErrNone},
		{"a", api.ErrFull},
		{"g", api.ErrFull},
		{"i", api.ErrFull},
	} {
		refuses(t, u, remove(x.p), x.want)
	}
	refuses(t, api.Union{}, remove(""), api.ErrNone)
	refuses(t, api.Union{}, remove("a"), api.ErrNone)
}

func TestRemoveCounts(t *testing.T) {
	const most = api.MaxEntries
	whites := many(api.White, 0, most)
	refuses(t, of(whites, read("a")), remove("a"), api.ErrMany)
	becomes(t, of(whites[1:], read("a")), remove("a"), joined(read("a-"), whites[1:]))
	refuses(t, of(whites[1:], read("a/ a/b")), remove("a/b"), api.ErrMany)
	becomes(t, of(whites[2:], read("a/ a/b")), remove("a/b"), joined(read("a/ a/b-"), whites[2:]))
	becomes(t, of(many(api.File, 0, most), many(api.File, 0, most)), remove("k000"), joined(whites[:1], many(api.File, 1, most-1)))
	becomes(t, of(many(api.File, 0, most)), remove("k000"), many(api.File, 1, most-1))
}

func TestMove(t *testing.T) {
	for _, x := range []struct{ u, from, to, want string }{
		{"a=x", "a", "b", "b=x"},
		{"a/ a/b=x", "a", "d", "d/ d/b=x"},
		{"a/! a/b=x a/c-", "a", "d", "d/ d/b=x"},
		{"| a=x", "a", "b", "a- b=x"},
		{"| a>x", "a", "b", "a- b>x"},
		{"| a/ a/b=x", "a", "d", "a- d/ d/b=x"},
		{"| a/ a/b=x | a/ a/c=y", "a", "d", "a- d/ d/b=x d/c=y"},
		{"a/ a/b- a/d | a/ a/b a/c=y", "a", "e", "a- e/ e/c=y e/d"},
		{"a/! a/d | a/ a/b a/c=y", "a", "e", "a- e/ e/d"},
		{"| a/ a/b/ a/b/c=x", "a/b", "d", "a/ a/b- d/ d/c=x"},
		{"| a/ a/b/ a/b/c=x d/", "a/b/c", "d/e", "a/ a/b/ a/b/c- d/ d/e=x"},
		{"a/! a/b=x | a/ a/b", "a/b", "c", "a/! c=x"},
		{"a/ a/b/ | a/ a/b=x", "a/b", "a/c", "a/ a/b- a/c/"},

		// Onto something.
		{"a=x b=y", "a", "b", "b=x"},
		{"| a=x b=y", "a", "b", "a- b=x"},
		{"| a=x b>y", "b", "a", "a>y b-"},
		{"a=x | b=y", "a", "b", "b=x"},
		{"b=y | a=x", "a", "b", "a- b=x"},
		{"a/ b/", "a", "b", "b/"},
		{"a/! b/!", "a", "b", "b/"},
		{"a/ a/c b/!", "a", "b", "b/ b/c"},
		{"| a/ a/c=x g/", "a", "g", "a- g/! g/c=x"},
		{"| a/ a/g/ a/g/c=x g/", "a/g", "g", "a/ a/g- g/! g/c=x"},
		{"a/ a/c=x | g/", "a", "g", "g/! g/c=x"},
		{"a/ a/c=x g/ g/c- | g/ g/c", "a", "g", "g/! g/c=x"},
		{"a/ a/c=x g/! | g/ g/c g/d", "a", "g", "g/! g/c=x"},
		{"g/! g/h/ | a/ a/c=x g/ g/h/ g/h/i", "a", "g/h", "a- g/! g/h/ g/h/c=x"},
		{"a/ | a/ b/ b/c- | b/ b/c", "a", "b", "a- b/!"},

		// Where something White stands, a Dir becomes Opaque, and what lies in it does not.
		{"b- | a=x b=y", "a", "b", "a- b=x"},
		{"b- | a/ a/c/ a/c/d b/ b/c/ b/c/e", "a", "b", "a- b/! b/c/ b/c/d"},
		{"a/ a/c b-", "a", "b", "b/! b/c"},
		{"| a/ a/b/ a/b/c a/d/", "a/b", "a/d", "a/ a/b- a/d/! a/d/c"},

		// Up, down, and beside paths that begin with the same bytes.
		{"| a a1 ab/ ab/c", "a", "ab/d", "a- ab/ ab/d"},
		{"| a/ a/b a1=x ab", "a", "c", "a- c/ c/b"},
		{"| a/ a/b/ a/b/c/ a/b/c/d", "a/b/c", "c", "a/ a/b/ a/b/c- c/ c/d"},
		{"| a/ a/b b/ b/c/", "a", "b/c/d", "a- b/ b/c/ b/c/d/ b/c/d/b"},
		{"| a/ a/a/ a/a/a", "a/a", "a/aa", "a/ a/a- a/aa/ a/aa/a"},
		{"| a/ a/b", "a/b", "b", "a/ a/b- b"},
	} {
		becomes(t, readUnion(x.u), move(x.from, x.to), read(x.want))
	}
}

func TestMoveToTheSame(t *testing.T) {
	for _, s := range []string{"a=x", "a/! a/b", "| a", "a/ | a/ a/b", "a/! | a/ a/b | a", "a b- c/! | a b c"} {
		u := readUnion(s)
		becomes(t, u, move("a", "a"), u.Upper)
	}
	full := of(joined(read("a/ a/b"), many(api.White, 2, api.MaxEntries-2)), read("c"))
	for _, p := range []string{"a", "a/b", "c"} {
		becomes(t, full, move(p, p), full.Upper)
	}
	for _, p := range []string{"", "no", "A", "k002"} {
		refuses(t, full, move(p, p), api.ErrNone)
	}
}

func TestMoveRefuses(t *testing.T) {
	u := readUnion("a/ a/b- c- d/! i/ i/j | a/ a/b a/e c d/ d/f i/ | g/ g/h h>g")
	for _, x := range []struct {
		from, to string
		want     api.Errno
	}{
		{"", "", api.ErrNone},
		{"", "z", api.ErrNone},
		{"no", "A", api.ErrNone},
		{"A", "A", api.ErrNone},
		{"c", "c", api.ErrNone},
		{"c", "c/z", api.ErrNone},
		{"a/b", "z", api.ErrNone},
		{"d/f", "z", api.ErrNone},
		{"h/h", "z", api.ErrNone},
		{"a", "", api.ErrName},
		{"a", "a/B", api.ErrName},
		{"h", "/h", api.ErrName},
		{"h", "no/Z", api.ErrName},
		{"h", strings.Repeat("z/", 1<<16), api.ErrName},
		{"a", "a/z", api.ErrFit},
		{"a", "a/no/z", api.ErrFit},
		{"h", "h/z", api.ErrFit},
		{"a", "no/z", api.ErrNone},
		{"a", "c/z", api.ErrNone},
		{"g", "a/b/z", api.ErrNone},
		{"g", "d/f/z", api.ErrNone},
		{"g", "a/e/z", api.ErrNotDir},
		{"d", "h/z", api.ErrNotDir},
		{"h", "a", api.ErrDir},
		{"h", "d", api.ErrDir},
		{"a/e", "i", api.ErrDir},
		{"a", "h", api.ErrNotDir},
		{"d", "g/h", api.ErrNotDir},
		{"d", "a", api.ErrFull},
		{"d", "g", api.ErrFull},
		{"a", "i", api.ErrFull},
	} {
		refuses(t, u, move(x.from, x.to), x.want)
	}
	refuses(t, api.Union{}, move("", ""), api.ErrNone)
	refuses(t, api.Union{}, move("a", "b"), api.ErrNone)
}

// A path that would have more than MaxPath bytes is refused ahead of too many entries of the upper layer.
func TestMoveOfLongPaths(t *testing.T) {
	deep, end := chain(api.MaxPath - len("/a/bb"))
	u := of(nil, joined(read("a/ a/bb"), deep))
	becomes(t, u, move("a", end+"/a"), joined(read("a-"), deep, read(end+"/a/ "+end+"/a/bb")))
	refuses(t, u, move("a", end+"/aa"), api.ErrMuch)
	tight := of(many(api.White, 0, api.MaxEntries), u.Lowers[0])
	refuses(t, tight, move("a", end+"/a"), api.ErrMany)
	refuses(t, tight, move("a", end+"/aa"), api.ErrMuch)
}

func TestMoveCounts(t *testing.T) {
	const most = api.MaxEntries
	files, whites := many(api.File, 0, most), many(api.White, 0, most)
	becomes(t, of(in("a", files[1:])), move("a", "b"), in("b", files[1:]))
	becomes(t, of(nil, in("a", files[2:])), move("a", "b"), joined(read("a-"), in("b", files[2:])))
	refuses(t, of(nil, in("a", files[1:])), move("a", "b"), api.ErrMany)
	refuses(t, of(whites[1:], read("a")), move("a", "b"), api.ErrMany)
	becomes(t, of(whites[2:], read("a")), move("a", "b"), joined(read("a- b"), whites[2:]))
	refuses(t, of(whites[2:], read("a b/")), move("a", "b/c"), api.ErrMany)

	// Only what the upper layer has in the end is counted: while b is dropped, it has one more.
	becomes(t, of(joined(read("a=x"), whites[1:]), read("b=y")), move("a", "b"), joined(read("b=x"), whites[1:]))
	becomes(t, of(joined(read("a/"), whites[1:]), read("b/")), move("a", "b"), joined(read("b/!"), whites[1:]))
}

// What is wrong with the union is told ahead of all else, by each of them.
func TestChangesOfWrongs(t *testing.T) {
	calls := []call{
		put(readOne("z")), put(readOne("a/")), put(readOne("k000")), put(api.Entry{}), put(readOne("no/z")),
		remove("a"), remove("k000"), remove(""), remove("no"),
		move("a", "z"), move("k000", "z"), move("a", "a"), move("", ""), move("a", "A"), move("no", "z"),
	}
	for _, x := range wrongUnions() {
		for _, c := range calls {
			refuses(t, x.u, c, x.want.Err)
		}
	}
}

// roomy is a union with spare room behind each of its lists; behind the list of lower layers there is one more.
func roomy(s string) api.Union {
	u := readUnion(s + "|")
	for i, l := range u.Lowers {
		u.Lowers[i] = withRoom(l)
	}
	return api.Union{Upper: withRoom(u.Upper), Lowers: u.Lowers[:len(u.Lowers)-1]}
}

func withRoom(l api.Tree) api.Tree {
	return joined(l, read("spare room"))[:len(l)]
}

// allOf is u with its spare room.
func allOf(u api.Union) api.Union {
	out := api.Union{Upper: u.Upper[:len(u.Upper)+2]}
	for _, l := range u.Lowers[:len(u.Lowers)+1] {
		out.Lowers = append(out.Lowers, l[:len(l)+2])
	}
	return out
}

// spoil overwrites list by list all that was answered, and tells of a list that another one changes.
func spoil(t *testing.T, what string, u api.Union) {
	t.Helper()
	all := layers(u)
	for i, l := range all {
		rest := api.Union{Lowers: all[i+1:]}
		before := cloned(rest)
		clear(l[:cap(l)])
		if !equal(rest, before) {
			t.Errorf("%s: list %d of the answer shares memory with another one", what, i)
		}
	}
	clear(u.Lowers[:cap(u.Lowers)])
}

// Z2: neither the lists that are handed in nor their spare room are changed, no answer shares memory with them, and no two lists of an answer share any.
func TestArgumentsStay(t *testing.T) {
	calls := []call{
		put(readOne("a=x")), put(readOne("z/")), put(readOne("d/e=x")), remove("a"), remove("d/e"), move("a", "z"), move("d", "z"), move("a", "a"),
		{"Seen", func(u api.Union) (api.Union, api.Errno) {
			l, err := Seen(u)
			return api.Union{Upper: l}, err
		}},
		{"Copy", func(u api.Union) (api.Union, api.Errno) { return Copy(u), api.OK }},
	}
	for _, s := range []string{"a d/ d/e", "| a d/ d/e", "a d/ d/e | a | d/ d/e | | a", "d/! d/e z- | a d/ z", "a d/ d/e | | |"} {
		for _, c := range calls {
			u := roomy(s)
			before := cloned(allOf(u))
			got, err := c.make(u)
			if err != api.OK {
				t.Errorf("%s in %q is %d", c.name, s, err)
			}
			spoil(t, c.name+" in "+s, got)
			if !equal(allOf(u), before) {
				t.Errorf("%s in %q: what was handed in is %v", c.name, s, allOf(u))
			}
		}
	}
}
