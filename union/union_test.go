package union

import (
	"slices"
	"strings"
	"testing"

	"tracings/api"
)

func TestWrongOfRightUnions(t *testing.T) {
	for _, u := range rightUnions() {
		if got := Wrong(u); got != (api.Fault{}) {
			t.Errorf("Wrong(%v) is %v", u, got)
		}
	}
}

func TestWrong(t *testing.T) {
	for _, x := range wrongUnions() {
		before := cloned(x.u)
		if got := Wrong(x.u); got != x.want {
			t.Errorf("Wrong(%v) is %v, not %v", x.u, got, x.want)
		}
		if !equal(x.u, before) {
			t.Errorf("Wrong changed %v into %v", before, x.u)
		}
	}
}

func TestSeen(t *testing.T) {
	for _, x := range []struct{ u, want string }{
		{"", ""},
		{"|", ""},
		{"||||", ""},
		{"a/ a/b=x c>a", "a/ a/b=x c>a"},
		{"a/! a/b- c- d", "a/ d"},
		{"| a/ a/b", "a/ a/b"},
		{"a/! c- | a/ a/b c", "a/"},
		{"a/ a/b- | a/ a/b a/c", "a/ a/c"},
		{"a=1 | a=2 b=2 | a=3 b=3 c=3 | d=4 | a=5 d=5 e=5", "a=1 b=2 c=3 d=4 e=5"},
		{"a/ a/b | a- | a/ a/c", "a/ a/b"},
		{"a/ a/b | a/! | a/ a/c", "a/ a/b"},
		{"| a- | a/ a/b | a/ a/c", ""},
		{"a | a/ a/b", "a"},
		{"b/ | a1/ a1/c | a/ a/c", "a/ a/c a1/ a1/c b/"},
	} {
		seen(t, readUnion(x.u), read(x.want), api.OK)
	}
}

func seen(t *testing.T, u api.Union, want api.Tree, wantErr api.Errno) {
	t.Helper()
	before := cloned(u)
	got, err := Seen(u)
	if err != wantErr || !slices.Equal(got, want) {
		t.Errorf("Seen(%v) is %v, %d, not %v, %d", u, got, err, want, wantErr)
	}
	if !equal(u, before) {
		t.Errorf("Seen changed %v into %v", before, u)
	}
}

func TestSeenAtTheEdges(t *testing.T) {
	const most = api.MaxEntries
	full := many(api.File, 0, most)
	seen(t, of(full), full, api.OK)
	seen(t, of(nil, nil, nil, nil, full), full, api.OK)
	seen(t, of(many(api.File, 0, most/2), many(api.File, most/2, most/2)), full, api.OK)
	seen(t, of(many(api.White, 0, most), full), nil, api.OK)
	seen(t, of(many(api.White, most, most), full), full, api.OK)
}

func TestSeenOfWrongs(t *testing.T) {
	for _, x := range wrongUnions() {
		seen(t, x.u, nil, x.want.Err)
	}
}

func look(t *testing.T, u api.Union, p string, want api.Entry, wantAt int, wantErr api.Errno) {
	t.Helper()
	before := cloned(u)
	got, at, err := Look(u, p)
	if err != wantErr || at != wantAt || got != want {
		t.Errorf("Look(%v, %q) is %v, %d, %d, not %v, %d, %d", u, p, got, at, err, want, wantAt, wantErr)
	}
	if !equal(u, before) {
		t.Errorf("Look changed %v into %v", before, u)
	}
}

func TestLook(t *testing.T) {
	for _, x := range []struct {
		u, p, want string
		at         int
	}{
		{"a", "a", "a", 0},
		{"a/ a/b=x", "a/b", "a/b=x", 0},
		{"a/!", "a", "a/", 0},
		{"| a/!", "a", "a/", 1},
		{"| a=1", "a", "a=1", 1},
		{"| | | | a>b", "a", "a>b", 4},
		{"a=0 | a=1 | a=2", "a", "a=0", 0},
		{"b | a=1 | a=2", "a", "a=1", 1},
		{"a/ | a/ | a/ a/b=2", "a/b", "a/b=2", 2},
		{"a/ | a/! | a/ a/b=2", "a", "a/", 0},
		{"| a/ a/b/ | a/ a/b/ a/b/c=2", "a/b", "a/b/", 1},
		{"| a/ a/b/ | a/ a/b/ a/b/c=2", "a/b/c", "a/b/c=2", 2},
		{"| a | a-", "a", "a", 1},
		{"a1- | a | a1", "a", "a", 1},
	} {
		look(t, readUnion(x.u), x.p, readOne(x.want), x.at, api.OK)
	}
}

func TestLookAtTheEdges(t *testing.T) {
	deep, end := chain(api.MaxPath - len("/nnnn"))
	p := end + "/nnnn"
	deep = append(deep, readOne(p+"=x"))
	look(t, of(nil, nil, nil, nil, deep), p, readOne(p+"=x"), api.MaxLowers, api.OK)
	look(t, of(nil, nil, nil, nil, deep), p+"n", api.Entry{}, 0, api.ErrName)
	look(t, of(nil, many(api.File, 0, api.MaxEntries)), "k079", readOne("k079"), 1, api.OK)
}

func TestLookRefuses(t *testing.T) {
	for _, x := range []struct {
		u, p string
		want api.Errno
	}{
		{"", "", api.ErrName},
		{"a/", "", api.ErrName},
		{"a/", "A", api.ErrName},
		{"a/", "/a", api.ErrName},
		{"a/", "a/", api.ErrName},
		{"a/", ".", api.ErrName},
		{"a/ | a/", "a/..", api.ErrName},
		{"a", strings.Repeat("a", api.MaxName+1), api.ErrName},
		{"a", strings.Repeat("/", 1<<16), api.ErrName},
		{"", "a", api.ErrNone},
		{"a", "b", api.ErrNone},
		{"a", "a/b", api.ErrNone},
		{"a-", "a", api.ErrNone},
		{"a- | a", "a", api.ErrNone},
		{"a- | a/ a/b", "a/b", api.ErrNone},
		{"a | a/ a/b", "a/b", api.ErrNone},
		{"a/! | a/ a/b", "a/b", api.ErrNone},
		{"| a/! | a/ a/b", "a/b", api.ErrNone},
		{"a/ a/b- | a/ a/b | a/ a/b", "a/b", api.ErrNone},
	} {
		look(t, readUnion(x.u), x.p, api.Entry{}, 0, x.want)
	}
	for _, x := range wrongUnions() {
		for _, p := range []string{"a", "k000", "", "A", "no"} {
			look(t, x.u, p, api.Entry{}, 0, x.want.Err)
		}
	}
}

// Z2: whoever changes what Seen answered, its spare room too, changes neither the union nor another answer.
func TestSeenAnswersNewMemory(t *testing.T) {
	for _, u := range rightUnions() {
		before := cloned(u)
		first, _ := Seen(u)
		second, _ := Seen(u)
		want := slices.Clone(second)
		clear(first[:cap(first)])
		if !equal(u, before) || !slices.Equal(second, want) {
			t.Errorf("an answer of Seen shares memory with %v, or with another one", before)
		}
	}
}

// Copy asks nothing of a union.
func TestCopy(t *testing.T) {
	all := rightUnions()
	for _, x := range wrongUnions() {
		all = append(all, x.u)
	}
	for _, u := range all {
		if got := Copy(u); !equal(got, u) {
			t.Errorf("Copy(%v) is %v", u, got)
		}
	}
}
