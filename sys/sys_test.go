package sys

import (
	"math"
	"slices"
	"strings"
	"testing"

	"tracings/api"
	"tracings/union"
)

// The document's example.
func TestHello(t *testing.T) {
	plays(t, readUnion("hello=hello"), readScript(`
		0 open hello r: 0
		0 unlink hello: 0
		0 read 0 3: 3 hel
	`), end{"", "", 1})
	plays(t, readUnion("| hello=hello"), readScript(`
		0 open hello r: 0
		0 unlink hello: 0
		0 read 0 3: 3 hel
		0 stat hello: ErrNone
	`), end{"hello-", "", 1})
}

// Each of the sixteen kinds, once and as it should be.
func TestEachKind(t *testing.T) {
	plays(t, readUnion("| a/ a/b=hello c=see"), readScript(`
		0 stat a/b: 1 hello
		0 list a: 0 [b]
		0 open a/b rw: 0
		0 dup 0: 1
		0 read 1 2: 2 he
		0 write 0 LL: 2
		0 seek 1 0: 0
		0 read 0 9: 5 heLLo
		0 alone 0 1 3: 0
		0 free 0 1 2: 0
		0 cut 0 4: 0
		0 close 1: 0
		0 mkdir d: 0
		0 link d/l ../a/b: 0
		0 stat d/l: 1 heLL
		0 rename a e: 0
		0 stat d/l: ErrNone
		0 unlink d/l: 0
		0 rmdir d: 0
		0 stat e/b: 1 heLL
	`), end{"a- e/ e/b=heLL", "c=see e/ e/b=heLL", 1})
}

func TestPlayOfNothing(t *testing.T) {
	for _, x := range []struct {
		u    api.Union
		want end
	}{
		{api.Union{}, end{"", "", 0}},
		{api.Union{Upper: api.Tree{}, Lowers: []api.Tree{}}, end{"", "", 0}},
		{api.Union{Lowers: make([]api.Tree, api.MaxLowers)}, end{"", "", 0}},
		{readUnion("a/! b- | a/ a/c b | d"), end{"a/! b-", "a/ d", 0}},
	} {
		plays(t, x.u, script{}, x.want)
		plays(t, x.u, script{calls: []api.Call{}}, x.want)
	}
}

// wrongUnions are unions with the error that package union tells of them.
func wrongUnions() map[api.Errno]api.Union {
	return map[api.Errno]api.Union{
		api.ErrKind:   {Upper: api.Tree{{Path: "a", Kind: 5}}},
		api.ErrName:   readUnion("A"),
		api.ErrMuch:   readUnion("| a=x*101"),
		api.ErrFit:    {Lowers: []api.Tree{{{Path: "a", Kind: api.Link}}}},
		api.ErrForm:   readUnion("b a"),
		api.ErrNotDir: readUnion("a/ | | a/b"),
		api.ErrMany:   {Lowers: make([]api.Tree, api.MaxLowers+1)},
	}
}

func TestPlayRefusesUnion(t *testing.T) {
	for want, u := range wrongUnions() {
		// Whatever is wrong with the calls, the union comes first.
		for _, l := range [][]api.Call{nil, {{Kind: api.CallStat, Path: "/"}}, make([]api.Call, api.MaxCalls+1)} {
			shown, answers, err := Play(u, l)
			if err != want || !zero(shown, answers) {
				t.Errorf("%v, %v, %d comes of %v, not %d", shown, answers, err, u, want)
			}
		}
	}
	// More is seen than there may be.
	shown, answers, err := Play(api.Union{Upper: readTree("a"), Lowers: []api.Tree{many(api.File, api.MaxEntries)}}, nil)
	if err != api.ErrMany || !zero(shown, answers) {
		t.Errorf("%v, %v, %d comes, not %d", shown, answers, err, api.ErrMany)
	}
}

func TestMaxCalls(t *testing.T) {
	u := readUnion("a=x")
	for _, n := range []int{1, api.MaxCalls - 1, api.MaxCalls} {
		l := slices.Repeat([]api.Call{readCall("3 stat a")}, n)
		shown, answers, err := Play(u, l)
		if err != api.OK || len(answers) != n || tell(answers[n-1]) != "1 x" || tellTree(shown.Tree) != "a=x" {
			t.Errorf("%v, %v, %d comes of %d calls", shown, answers, err, n)
		}
	}
	for _, n := range []int{api.MaxCalls + 1, api.MaxCalls + 2, 1 << 16} {
		for _, c := range []api.Call{{}, readCall("3 stat a")} {
			shown, answers, err := Play(u, slices.Repeat([]api.Call{c}, n))
			if err != api.ErrMany || !zero(shown, answers) {
				t.Errorf("%v, %v, %d comes of %d calls", shown, answers, err, n)
			}
		}
	}
}

func TestKindsAndOwners(t *testing.T) {
	u := readUnion("a=x")
	for _, kind := range []int{0, -1, 17, 18, 100, math.MinInt, math.MaxInt} {
		for _, owner := range []int{0, 3, 4, -1, math.MinInt, math.MaxInt} {
			_, answers, _ := Play(u, []api.Call{{Kind: kind, Owner: owner, Path: "a", N: 1}})
			if got := tell(answers[0]); got != "ErrKind" {
				t.Errorf("%s comes of kind %d of owner %d", got, kind, owner)
			}
		}
	}
	for kind := api.CallOpen; kind <= api.CallCut; kind++ {
		for _, owner := range []int{4, 5, -1, math.MinInt, math.MaxInt} {
			for _, c := range []api.Call{{}, {Path: "a", N: 1}, {Path: "A", N: 64, Fd: 9, To: "A"}} {
				c.Kind, c.Owner = kind, owner
				_, answers, _ := Play(u, []api.Call{c})
				if got := tell(answers[0]); got != "ErrRange" {
					t.Errorf("%s comes of kind %d of owner %d", got, kind, owner)
				}
			}
		}
	}
	answered(t, "a=x", `
		0 open a r: 0
		1 open a r: 0
		2 open a r: 0
		3 open a r: 0
		3 close 0: 0
	`, "a=x", 1)
}

// Fields that a kind has not mean nothing.
func TestFieldsOfOthers(t *testing.T) {
	u := readUnion("a/ a/b=hello c>a")
	for _, line := range []string{"0 open c/b rw", "0 mkdir d", "0 rmdir a", "0 unlink c", "0 rename c d", "0 link d a", "0 list c", "0 stat c/b", "0 close 0", "0 dup 0"} {
		bare := readCall(line)
		odd := bare
		odd.M, odd.Text, odd.Alone = -7, strings.Repeat("x", 200), true
		if bare.Kind != api.CallLink && bare.Kind != api.CallRename {
			odd.To = "A"
		}
		if bare.Kind != api.CallOpen {
			odd.N = -7
		}
		if bare.Path != "" {
			odd.Fd = -7
		} else {
			odd.Path = "A"
		}
		first := readCall("0 open a/b rw")
		wantShown, want, _ := Play(u, []api.Call{first, bare})
		shown, got, err := Play(u, []api.Call{first, odd})
		if err != api.OK || tell(got[1]) != tell(want[1]) || got[1].Err != api.OK && line != "0 rmdir a" || !sameShown(shown, wantShown) {
			t.Errorf("%s: %v, %v comes, not %v, %v", line, shown, got, wantShown, want)
		}
	}
}

// spare is u, with spare room behind each of its lists.
func spare(u api.Union) api.Union {
	room := func(t api.Tree) api.Tree {
		out := append(make(api.Tree, 0, len(t)+4), t...)
		copy(out[len(t):cap(out)], readTree("x=1 x=2 x=3 x=4"))
		return out
	}
	lowers := make([]api.Tree, 0, len(u.Lowers)+2)
	for _, l := range u.Lowers {
		lowers = append(lowers, room(l))
	}
	return api.Union{Upper: room(u.Upper), Lowers: lowers}
}

// whole is all that a list has, its spare room too.
func whole[T any](l []T) []T {
	return l[:cap(l)]
}

func TestGivenStays(t *testing.T) {
	x := readScript(`
		0 open a/b rw: 0
		0 write 0 new: 3
		1 open n rwc: 0
		0 unlink c: 0
		0 rename a q: 0
		0 mkdir a: 0
		0 list q: 0 [b l]
	`)
	for _, tree := range layered(readTree("a/ a/b=hello a/l>../c c=see")) {
		u := spare(tree)
		calls := append(make([]api.Call, 0, 99), x.calls...)
		copy(whole(calls)[len(calls):], []api.Call{readCall("0 unlink q/b")})
		before, callsBefore := union.Copy(u), slices.Clone(whole(calls))
		shown, answers, _ := Play(u, calls)
		kept := union.Copy(shown.Union)
		keptTree := slices.Clone(shown.Tree)
		if !sameUnion(u, before) || !slices.Equal(whole(calls), callsBefore) {
			t.Errorf("%v, %v became %v, %v", before, callsBefore, u, whole(calls))
		}
		for _, l := range append([]api.Tree{u.Upper}, u.Lowers...) {
			if got := tellTree(whole(l)[len(l):]); got != "x=1 x=2 x=3 x=4" {
				t.Errorf("spare room became %s", got)
			}
		}
		if extra := whole(u.Lowers)[len(u.Lowers):]; extra[0] != nil || extra[1] != nil {
			t.Errorf("spare room became %v", extra)
		}
		// Whoever handed it in may change it then.
		scribble(u)
		clear(whole(calls))
		if !sameUnion(shown.Union, kept) || !slices.Equal(shown.Tree, keptTree) || tell(answers[6]) != "0 [b l]" {
			t.Errorf("%v became %v", kept, shown)
		}
	}
}

// scribble writes over all that u has.
func scribble(u api.Union) {
	for _, l := range append([]api.Tree{u.Upper}, u.Lowers...) {
		for i := range whole(l) {
			whole(l)[i] = readEntry("scribble=x")
		}
	}
	clear(whole(u.Lowers))
}

// Even if nothing was changed, what is answered is the caller's.
func TestAnswerIsNew(t *testing.T) {
	for _, u := range layered(readTree("a/ a/b=hello c=see")) {
		for _, lines := range []string{"", "0 stat a: 2", "0 open a/b rw: 0", "0 mkdir d: 0", "0 rename c d: 0"} {
			before := union.Copy(u)
			shown, _, _ := Play(u, readScript(lines).calls)
			tree := tellTree(shown.Tree)
			var lowers []string
			for _, l := range shown.Union.Lowers {
				lowers = append(lowers, tellTree(l))
			}
			for i := range whole(shown.Union.Upper) {
				whole(shown.Union.Upper)[i] = readEntry("scribble=x")
			}
			for i, l := range shown.Union.Lowers {
				if tellTree(l) != lowers[i] {
					t.Errorf("lower layer %d shares memory with one ahead of it", i)
				}
				for j := range whole(l) {
					whole(l)[j] = readEntry("scribble=x")
				}
			}
			if tellTree(shown.Tree) != tree {
				t.Errorf("the tree that is seen shares memory with the union")
			}
			clear(whole(shown.Tree))
			clear(whole(shown.Union.Lowers))
			if !sameUnion(u, before) {
				t.Errorf("%v became %v", before, u)
			}
		}
	}
}

func TestNamesAreNew(t *testing.T) {
	_, answers, _ := Play(readUnion("a/ a/b a/c"), []api.Call{readCall("0 list a"), readCall("0 list a")})
	clear(whole(answers[0].Names))
	if got := tell(answers[1]); got != "0 [b c]" {
		t.Errorf("%s comes", got)
	}
}

// No call panics, whatever it is given: odd numbers and texts in all fields of all kinds, with and without something open.
func TestOddCalls(t *testing.T) {
	numbers := []int{math.MinInt, -1, 0, 1, 3, 7, 8, 63, 100, 101, 1000, 1001, math.MaxInt}
	texts := []string{"", "/", "..", "a", "a/b", "a/b/..", "A", "\x00", "s", "s/s", strings.Repeat("x", 101), strings.Repeat("../", 26), strings.Repeat("/", 1<<16), "ä"}
	u := readUnion("a/ a/b=hello s>s | a/! a/c | a/ a/d")
	var calls []api.Call
	for kind := -1; kind <= api.CallCut+1; kind++ {
		for i, n := range numbers {
			for j, s := range texts {
				to := texts[(i+j)%len(texts)]
				m := numbers[(i*j+kind+1)%len(numbers)]
				calls = append(calls, api.Call{Kind: kind, Owner: j % 5, Fd: n, N: m, M: n, Path: s, To: to, Text: to, Alone: i%2 == 0})
				calls = append(calls, api.Call{Kind: kind, Owner: j % 2, Fd: i % 3, N: n, M: m, Path: to, To: s, Text: s})
			}
		}
	}
	first := readScript("0 open a/b 3: 0\n 0 open a/b 7: 1\n 1 open n 11: 0\n 1 unlink n: 0").calls
	for l := range slices.Chunk(calls, api.MaxCalls-len(first)) {
		all := slices.Concat(first, l)
		shown, answers, err := Play(u, all)
		if err != api.OK || len(answers) != len(all) {
			t.Fatalf("%d answers, %d comes", len(answers), err)
		}
		seen, err := union.Seen(shown.Union)
		if err != api.OK || !slices.Equal(seen, shown.Tree) {
			t.Fatalf("%v is seen, not %v, %d", shown.Tree, seen, err)
		}
		again, answersAgain, _ := Play(u, all)
		if !sameShown(shown, again) || !slices.EqualFunc(answers, answersAgain, func(a, b api.Answer) bool { return tell(a) == tell(b) }) {
			t.Fatalf("the same calls come out otherwise")
		}
	}
}
