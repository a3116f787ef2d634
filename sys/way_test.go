package sys

import (
	"fmt"
	"slices"
	"strings"
	"testing"

	"tracings/api"
)

// Ways, as CallStat goes them: links are followed, one that stands last too.
func TestWays(t *testing.T) {
	answered(t, "a/ a/b=hello a/l>../c a/up>.. c=see d>a e>/a/b f>nowhere g>/ h>. i>d/l m/ m/n/ m/n/x=deep m/n/y>/m/n/x m/n/z>../../c s>s", `
		Parse's errors.
		0 stat "": ErrNone
		0 stat A: ErrName
		0 stat a/B: ErrName
		0 stat no/A: ErrName
		0 stat x*13: ErrName
		0 stat /*80: 2
		0 stat /*81: ErrMuch
		0 stat a/b/no/A: ErrName

		The empty path, and .. of it.
		0 stat /: 2
		0 stat .: 2
		0 stat ..: 2
		0 stat ../..: 2
		0 stat ../../c: 1 see
		0 stat /../a/../../c: 1 see

		Name by name.
		0 stat a: 2
		0 stat /a: 2
		0 stat a/: 2
		0 stat //a/./b//: 1 hello
		0 stat a/..: 2
		0 stat a/../c: 1 see
		0 stat m/n/../n/x: 1 deep
		0 stat m/n/../../m/../c: 1 see

		What is not there, and what is no Dir.
		0 stat no: ErrNone
		0 stat no/c: ErrNone
		0 stat no/..: ErrNone
		0 stat no/../c: ErrNone
		0 stat a/no: ErrNone
		0 stat a/no/..: ErrNone
		0 stat c/x: ErrNotDir
		0 stat c/..: ErrNotDir
		0 stat c/../c: ErrNotDir
		0 stat c/.: 1 see
		0 stat c/: 1 see
		0 stat a/b/no/x: ErrNotDir

		Links with a name behind them, and last ones.
		0 stat d: 2
		0 stat d/b: 1 hello
		0 stat d/..: 2
		0 stat d/../c: 1 see
		0 stat d/no: ErrNone
		0 stat d/no/..: ErrNone
		0 stat a/l: 1 see
		0 stat d/l: 1 see
		0 stat i: 1 see
		0 stat a/l/x: ErrNotDir
		0 stat a/l/..: ErrNotDir
		0 stat a/up: 2
		0 stat a/up/c: 1 see
		0 stat a/up/a/up/c: 1 see

		From the empty path, and from the Link's directory.
		0 stat e: 1 hello
		0 stat e/x: ErrNotDir
		0 stat m/n/y: 1 deep
		0 stat m/n/z: 1 see
		0 stat g: 2
		0 stat g/c: 1 see
		0 stat g/..: 2
		0 stat h: 2
		0 stat h/c: 1 see
		0 stat h/a/b: 1 hello

		A Link to nothing.
		0 stat f: ErrNone
		0 stat f/x: ErrNone
		0 stat f/..: ErrNone

		A Link that leads to itself.
		0 stat s: ErrLoop
		0 stat s/x: ErrLoop
		0 stat s/..: ErrLoop
		0 stat m/../s/A: ErrName
	`, "a/ a/b=hello a/l>../c a/up>.. c=see d>a e>/a/b f>nowhere g>/ h>. i>d/l m/ m/n/ m/n/x=deep m/n/y>/m/n/x m/n/z>../../c s>s", 0)
}

// The same ways by CallList, which follows a Link that stands last as well.
func TestWaysOfList(t *testing.T) {
	answered(t, "a/ a/b=hello a/l>../c c=see d>a e/ f>nowhere g>/ s>s", `
		0 list /: 0 [a c d e f g s]
		0 list ..: 0 [a c d e f g s]
		0 list g: 0 [a c d e f g s]
		0 list a: 0 [b l]
		0 list d: 0 [b l]
		0 list d/: 0 [b l]
		0 list g/d: 0 [b l]
		0 list e: 0
		0 list c: ErrNotDir
		0 list a/l: ErrNotDir
		0 list f: ErrNone
		0 list no: ErrNone
		0 list no/x: ErrNone
		0 list c/x: ErrNotDir
		0 list s: ErrLoop
		0 list "": ErrNone
		0 list B: ErrName
		0 list /*81: ErrMuch
	`, "a/ a/b=hello a/l>../c c=see d>a e/ f>nowhere g>/ s>s", 0)
}

// Calls that do not follow a Link that stands last, and follow all others; the error of a Link's text.
func TestLinksThatStandLast(t *testing.T) {
	tree := "a/ a/b=hello a/k>b c=see d>a s>s"
	answered(t, tree, `
		0 mkdir d: ErrName
		0 mkdir s: ErrName
		0 mkdir d/x: 0
		0 mkdir s/x: ErrLoop
		0 link d x: ErrName
		0 link s x: ErrName
		0 link d/y c: 0
		0 link d/y/z c: ErrNone
		0 rmdir d: ErrNotDir
		0 rmdir d/: ErrNotDir
		0 rmdir s: ErrNotDir
		0 rmdir d/x: 0
		0 rmdir d/..: ErrFit
		0 open s rwcf: ErrName
		0 open s rwc: ErrLoop
		0 rename s r: 0
		0 rename d/k d/j: 0
		0 rename d/j d/b: 0
		0 stat a/b: ErrLoop
		0 unlink d/b: 0
		0 open d rwcf: ErrName
		0 open d/y rwcf: ErrName
		0 open r rwcf: ErrName
		0 unlink d/y: 0
		0 unlink d/: 0
		0 unlink r: 0
	`, "a/ c=see", 0)
	answered(t, "a>B b>x*81 c>a/b d>c e>a", `
		0 stat a: ErrName
		0 stat a/x: ErrName
		0 stat b: ErrMuch
		0 stat b/..: ErrMuch
		0 stat c: ErrName
		0 stat d: ErrName
		0 stat e: ErrName
		0 open a rwc: ErrName
		0 open a rwcf: ErrName
		0 list a: ErrName
		0 mkdir a: ErrName
		0 mkdir b/x: ErrMuch
		0 rename a f: 0
		0 unlink b: 0
		0 stat c: ErrNone
	`, "c>a/b d>c e>a f>B", 0)
}

// chained are n links, each to the next one, and the last one to a Dir.
func chained(n int) api.Tree {
	t := readTree("a/ a/b=hello")
	for i := range n {
		to := fmt.Sprintf("k%02d", i+1)
		if i == n-1 {
			to = "a"
		}
		t = append(t, api.Entry{Path: fmt.Sprintf("k%02d", i), Kind: api.Link, Text: to})
	}
	return t
}

func TestMaxHops(t *testing.T) {
	for n := 1; n <= api.MaxHops+2; n++ {
		for way, want := range map[string]string{"k00": "2", "k00/b": "1 hello", "k00/../a/b": "1 hello"} {
			if n > api.MaxHops {
				want = "ErrLoop"
			}
			_, answers, _ := Play(api.Union{Upper: chained(n)}, []api.Call{{Kind: api.CallStat, Path: way}})
			if got := tell(answers[0]); got != want {
				t.Errorf("%s comes of %s by %d links, not %s", got, way, n, want)
			}
		}
	}
	// A Link that is gone by more than once counts each time, wherever it stands along the way; a name that is no Link counts not at all.
	u := readUnion("a/ b/ c/ d>a e>. f>e/e/e/e")
	for way, want := range map[string]string{
		strings.Repeat("d/../", 8) + "a":  "2",
		strings.Repeat("d/../", 8) + "d":  "ErrLoop",
		strings.Repeat("d/../", 7) + "d":  "2",
		strings.Repeat("d/../", 9) + "a":  "ErrLoop",
		strings.Repeat("e/", 8) + "a":     "2",
		strings.Repeat("e/", 9) + "a":     "ErrLoop",
		strings.Repeat("a/../", 15) + "d": "2",
		"f/e/e/e/a":                       "2",
		"f/e/e/e/e":                       "ErrLoop",
		"f/f":                             "ErrLoop",
	} {
		_, answers, _ := Play(u, []api.Call{{Kind: api.CallStat, Path: way}})
		if got := tell(answers[0]); got != want {
			t.Errorf("%s comes of %s, not %s", got, way, want)
		}
	}
	// One that stands last and is not followed does not count; each way counts for itself.
	plays(t, api.Union{Upper: readTree("a/ e>. m>a n=x")}, readScript(`
		0 unlink e/e/e/e/e/e/e/e/m: 0
		0 rename e/e/e/e/e/e/e/e/n e/e/e/e/e/e/e/e/o: 0
		0 rename e/e/e/e/e/e/e/e/e/o p: ErrLoop
		0 rename o e/e/e/e/e/e/e/e/e/p: ErrLoop
		0 unlink e/e/e/e/e/e/e/e/e: 0
		0 stat o: 1 x
	`), end{"a/ o=x", "a/ o=x", 0})
}

// A Link's text that does not parse is not asked, if it is one too many.
func TestLoopAheadOfText(t *testing.T) {
	tree := chained(api.MaxHops + 1)
	tree[len(tree)-1].Text = "B"
	for _, x := range []struct{ way, want string }{{"k00", "ErrLoop"}, {"k00/x", "ErrLoop"}, {"k01", "ErrName"}, {"k01/x", "ErrName"}} {
		_, answers, _ := Play(api.Union{Upper: tree}, []api.Call{{Kind: api.CallStat, Path: x.way}})
		if got := tell(answers[0]); got != x.want {
			t.Errorf("%s comes of %s, not %s", got, x.way, x.want)
		}
	}
}

// deep is directories in one another, the last one's path of n bytes, and a Link to it; n is odd.
func deep(n int) (api.Tree, string) {
	p := "d"
	t := readTree("d/")
	for len(p) < n {
		p += "/d"
		t = append(t, readEntry(p+"/"))
	}
	return append(t, api.Entry{Path: "l", Kind: api.Link, Text: p}), p
}

// By a Link, a way may lead to a path of MaxPath bytes, and not of one more: that comes last, ahead of all that a call asks itself.
func TestMaxPath(t *testing.T) {
	tree, p := deep(api.MaxPath - 3)
	u := api.Union{Lowers: []api.Tree{tree}}
	x := readScript(`
		0 stat l: 2
		0 stat l/xy: ErrNone
		0 stat l/xyz: ErrMuch
		0 open l/xyz r: ErrMuch
		0 open l/xyz rc: ErrMuch
		0 open l/xyz rcf: ErrMuch
		0 mkdir l/xyz: ErrMuch
		0 link l/xyz "": ErrMuch
		0 unlink l/xyz: ErrMuch
		0 rmdir l/xyz: ErrMuch
		0 list l/xyz: ErrMuch
		0 rename l/xyz /: ErrMuch
		0 rename / l/xyz: ErrMuch
		0 rename l l/xyz: ErrMuch
		0 stat l/xyz/..: ErrNone
		0 stat l/xyz/x: ErrNone
		0 open l/xy wc: 0
		0 write 0 new: 3
		0 stat l/xy: 1 new
		0 stat l/../d/xy: 1 new
	`)
	file := p + "/xy"
	upper := slices.Concat(tree[:len(tree)-1], readTree(file+"=new"))
	plays(t, u, x, end{tellTree(upper), tellTree(append(upper, tree[len(tree)-1])), 1})
}
