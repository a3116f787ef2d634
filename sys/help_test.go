package sys

import (
	"fmt"
	"reflect"
	"slices"
	"strconv"
	"strings"
	"testing"

	"tracings/api"
	"tracings/union"
)

// readTree reads entries with blanks between: `a/` is a Dir, `a/!` an Opaque one, `a-` is White, `a>b` a Link to b, `a=x` a File with x in it, and `a` an empty one.
func readTree(s string) api.Tree {
	var l api.Tree
	for _, w := range strings.Fields(s) {
		l = append(l, readEntry(w))
	}
	return l
}

func readEntry(w string) api.Entry {
	if p, text, ok := strings.Cut(w, ">"); ok {
		return api.Entry{Path: p, Kind: api.Link, Text: readText(text)}
	}
	if p, text, ok := strings.Cut(w, "="); ok {
		return api.Entry{Path: p, Kind: api.File, Text: readText(text)}
	}
	if p, ok := strings.CutSuffix(w, "/!"); ok {
		return api.Entry{Path: p, Kind: api.Dir, Opaque: true}
	}
	if p, ok := strings.CutSuffix(w, "/"); ok {
		return api.Entry{Path: p, Kind: api.Dir}
	}
	if p, ok := strings.CutSuffix(w, "-"); ok {
		return api.Entry{Path: p, Kind: api.White}
	}
	return api.Entry{Path: w, Kind: api.File}
}

// readText reads a text without blanks: `""` is the empty one, `x*9` nine times x, and 0 is the byte 0 where a `\` stands ahead of it.
func readText(s string) string {
	if s == `""` {
		return ""
	}
	if what, n, ok := strings.Cut(s, "*"); ok {
		s = strings.Repeat(what, number(n))
	}
	return strings.ReplaceAll(s, `\0`, "\x00")
}

func number(s string) int {
	n, err := strconv.Atoi(s)
	if err != nil {
		panic(s + " is no number")
	}
	return n
}

// readUnion reads layers with `|` between, the upper one first.
func readUnion(s string) api.Union {
	var all []api.Tree
	for _, l := range strings.Split(s, "|") {
		all = append(all, readTree(l))
	}
	return api.Union{Upper: all[0], Lowers: all[1:]}
}

// uses are what a file is opened for, by letters.
func uses(s string) int {
	if n, err := strconv.Atoi(s); err == nil {
		return n
	}
	n := 0
	for _, c := range s {
		n |= 1 << strings.IndexRune("rwacfe", c)
	}
	return n
}

// readCall reads a call: its owner, what it is, and what it has of Fd, Path, N and so on, in the order of package api's remarks.
func readCall(s string) api.Call {
	w := append(strings.Fields(s), "", "", "")
	c := api.Call{Owner: number(w[0])}
	onFd := func(kind int) {
		c.Kind, c.Fd = kind, number(w[2])
	}
	withN := func(kind int) {
		onFd(kind)
		c.N = number(w[3])
	}
	onPath := func(kind int) {
		c.Kind, c.Path, c.To = kind, readText(w[2]), readText(w[3])
	}
	withM := func(kind int) {
		withN(kind)
		c.M = number(w[4])
	}
	switch w[1] {
	case "open":
		c.Kind, c.Path, c.N = api.CallOpen, readText(w[2]), uses(w[3])
	case "close":
		onFd(api.CallClose)
	case "read":
		withN(api.CallRead)
	case "write":
		onFd(api.CallWrite)
		c.Text = readText(w[3])
	case "seek":
		withN(api.CallSeek)
	case "mkdir":
		onPath(api.CallMkdir)
	case "rmdir":
		onPath(api.CallRmdir)
	case "unlink":
		onPath(api.CallUnlink)
	case "rename":
		onPath(api.CallRename)
	case "link":
		onPath(api.CallLink)
	case "list":
		onPath(api.CallList)
	case "stat":
		onPath(api.CallStat)
	case "dup":
		onFd(api.CallDup)
	case "lock":
		withM(api.CallLock)
	case "alone":
		withM(api.CallLock)
		c.Alone = true
	case "free":
		withM(api.CallFree)
	case "cut":
		withN(api.CallCut)
	case "kind":
		c.Kind = number(w[2])
	default:
		panic(s)
	}
	return c
}

// tell tells an answer: its errno's name; else N, Text, and Names.
func tell(a api.Answer) string {
	out := strconv.Itoa(a.N)
	if a.Text != "" {
		out += " " + tellText(a.Text)
	}
	if len(a.Names) > 0 {
		out += fmt.Sprint(" ", a.Names)
	}
	if a.Err == api.OK {
		return out
	}
	name := []string{"OK", "ErrKind", "ErrForm", "ErrRange", "ErrMuch", "ErrMany", "ErrNone", "ErrName", "ErrFit", "ErrDir", "ErrNotDir", "ErrFull", "ErrLoop", "ErrHeld"}[a.Err]
	if out != "0" {
		name += " with " + out
	}
	return name
}

// tellText tells many times the same byte, and the byte 0, as readText reads them.
func tellText(s string) string {
	if len(s) > 8 && strings.Trim(s, s[:1]) == "" {
		return strings.ReplaceAll(fmt.Sprintf("%c*%d", s[0], len(s)), "\x00", `\0`)
	}
	return strings.ReplaceAll(s, "\x00", `\0`)
}

// tellTree tells a tree as readTree reads it.
func tellTree(t api.Tree) string {
	var out []string
	for _, e := range t {
		switch {
		case e.Kind == api.Dir && e.Opaque:
			out = append(out, e.Path+"/!")
		case e.Kind == api.Dir:
			out = append(out, e.Path+"/")
		case e.Kind == api.White:
			out = append(out, e.Path+"-")
		case e.Kind == api.Link:
			out = append(out, e.Path+">"+tellText(e.Text))
		case e.Text != "":
			out = append(out, e.Path+"="+tellText(e.Text))
		default:
			out = append(out, e.Path)
		}
	}
	return strings.Join(out, " ")
}

// script is calls, and what must come of each.
type script struct {
	lines []string
	calls []api.Call
	want  []string
}

// readScript reads a line for each call: the call, `:`, and the answer; a line that does not begin with an owner is a remark.
func readScript(s string) script {
	var x script
	for line := range strings.Lines(s) {
		line = strings.TrimSpace(line)
		if line == "" || line[0] < '0' || line[0] > '9' {
			continue
		}
		call, want, _ := strings.Cut(line, ":")
		x.lines = append(x.lines, strings.TrimSpace(call))
		x.calls = append(x.calls, readCall(call))
		x.want = append(x.want, strings.TrimSpace(want))
	}
	return x
}

// end is what all comes to.
type end struct {
	upper, tree string
	open        int
}

// plays makes the calls, and holds each answer, and the end, against what they must be. What was given must stay.
func plays(t *testing.T, u api.Union, x script, want end) {
	t.Helper()
	before, calls := union.Copy(u), slices.Clone(x.calls)
	shown, answers, err := Play(u, x.calls)
	if err != api.OK || len(answers) != len(calls) {
		t.Fatalf("%d answers to %d calls come, and errno %d", len(answers), len(calls), err)
	}
	for i, a := range answers {
		if got := tell(a); got != x.want[i] {
			t.Errorf("call %d: %s: %s comes, not %s", i, x.lines[i], got, x.want[i])
		}
	}
	if got := (end{tellTree(shown.Union.Upper), tellTree(shown.Tree), shown.Open}); got != want {
		t.Errorf("it ends with %+v, not %+v", got, want)
	}
	if !slices.EqualFunc(shown.Union.Lowers, before.Lowers, slices.Equal) {
		t.Errorf("the lower layers %v became %v", before.Lowers, shown.Union.Lowers)
	}
	if !sameUnion(u, before) || !slices.Equal(x.calls, calls) {
		t.Errorf("what was given, %v and %v, became %v and %v", before, calls, u, x.calls)
	}
	withoutRefused(t, u, x, shown)
}

// withoutRefused leaves out what was refused, and what only asked: all else must come out as it did.
func withoutRefused(t *testing.T, u api.Union, x script, want api.Shown) {
	t.Helper()
	var left script
	for i, c := range x.calls {
		if !strings.HasPrefix(x.want[i], "Err") && c.Kind != api.CallStat && c.Kind != api.CallList {
			left.lines = append(left.lines, x.lines[i])
			left.calls = append(left.calls, c)
			left.want = append(left.want, x.want[i])
		}
	}
	shown, answers, err := Play(u, left.calls)
	for i, a := range answers {
		if got := tell(a); got != left.want[i] {
			t.Errorf("without what was refused, %s comes of %s, not %s", got, left.lines[i], left.want[i])
		}
	}
	if err != api.OK || !sameShown(shown, want) {
		t.Errorf("without what was refused, it ends with %v, %d, not %v", shown, err, want)
	}
}

func sameShown(a, b api.Shown) bool {
	return sameUnion(a.Union, b.Union) && slices.Equal(a.Tree, b.Tree) && a.Open == b.Open
}

// sameUnion takes nil and a list without entries for the same.
func sameUnion(a, b api.Union) bool {
	return slices.Equal(a.Upper, b.Upper) && slices.EqualFunc(a.Lowers, b.Lowers, slices.Equal)
}

// answered plays a script in the tree, which is one layer, the upper one or a lower one, or several: the answers, and the tree that is seen, must be the same.
func answered(t *testing.T, tree, lines, wantTree string, wantOpen int) {
	t.Helper()
	x := readScript(lines)
	for _, u := range layered(readTree(tree)) {
		shown, _, err := Play(u, x.calls)
		if err != api.OK {
			t.Fatalf("errno %d comes in %v", err, u)
		}
		plays(t, u, x, end{tellTree(shown.Union.Upper), wantTree, wantOpen})
	}
}

// layered are unions in all of which t is seen.
func layered(t api.Tree) []api.Union {
	var dirs, others, odd, even api.Tree
	for i, e := range t {
		if e.Kind == api.Dir {
			dirs = append(dirs, e)
			odd, even = append(odd, e), append(even, e)
			continue
		}
		others = append(others, e)
		if i%2 == 0 {
			even = append(even, e)
		} else {
			odd = append(odd, e)
		}
	}
	hidden := readTree("zz/ zz/a=hidden zz/b/")
	white := readTree("zz-")
	return []api.Union{
		{Upper: t},
		{Lowers: []api.Tree{t}},
		{Lowers: []api.Tree{nil, t, nil}},
		{Upper: odd, Lowers: []api.Tree{even}},
		{Upper: even, Lowers: []api.Tree{odd, dirs}},
		{Upper: dirs, Lowers: []api.Tree{t}},
		{Upper: slices.Concat(t, white), Lowers: []api.Tree{hidden}},
		{Lowers: []api.Tree{slices.Concat(t, white), hidden}},
		{Upper: white, Lowers: []api.Tree{slices.Concat(t, hidden)}},
	}
}

// many is n entries of a kind, rising.
func many(kind, n int) api.Tree {
	var l api.Tree
	for i := range n {
		l = append(l, api.Entry{Path: fmt.Sprintf("k%03d", i), Kind: kind})
	}
	return l
}

// zero tells whether nothing is answered.
func zero(s api.Shown, a []api.Answer) bool {
	return reflect.ValueOf(s).IsZero() && len(a) == 0
}
