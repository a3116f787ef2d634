package sys

import (
	"maps"
	"slices"
	"strings"
	"testing"

	"tracings/api"
)

// node is something that is there, or was when it was opened: no layers, and no paths. A name leads to it, as long as one does.
type node struct {
	kind int
	text string
	up   *node // a Dir's
	kids map[string]*node
	held map[heldByte]int // 1: by this owner, 2: alone
}

type heldByte struct{ owner, at int }

type modelOpening struct {
	n       *node
	use, at int
}

// model is what the chapter speaks of, as if there were nothing but names and nodes.
type model struct {
	root    *node
	numbers [api.MaxOwner]map[int]*modelOpening
}

func newDir(up *node) *node {
	return &node{kind: api.Dir, up: up, kids: map[string]*node{}}
}

func modelOf(t api.Tree) *model {
	m := &model{root: newDir(nil)}
	m.root.up = m.root
	for i := range m.numbers {
		m.numbers[i] = map[int]*modelOpening{}
	}
	for _, e := range t {
		parts := strings.Split(e.Path, "/")
		d := m.root
		for _, part := range parts[:len(parts)-1] {
			d = d.kids[part]
		}
		n := newDir(d)
		if e.Kind != api.Dir {
			n = &node{kind: e.Kind, text: e.Text}
		}
		d.kids[parts[len(parts)-1]] = n
	}
	return m
}

// tree is all that names lead to, rising.
func (m *model) tree() api.Tree {
	var t api.Tree
	var walk func(d *node, prefix string)
	walk = func(d *node, prefix string) {
		for _, name := range names(d) {
			n := d.kids[name]
			t = append(t, api.Entry{Path: prefix + name, Kind: n.kind, Text: n.text})
			if n.kind == api.Dir {
				walk(n, prefix+name+"/")
			}
		}
	}
	walk(m.root, "")
	return t
}

func names(d *node) []string {
	var l []string
	for name := range d.kids {
		l = append(l, name)
	}
	slices.Sort(l)
	return l
}

func (m *model) open() int {
	var l []*node
	for _, p := range m.numbers {
		for _, o := range p {
			if !slices.Contains(l, o.n) {
				l = append(l, o.n)
			}
		}
	}
	return len(l)
}

// pathLen is how long the path of a Dir is.
func (m *model) pathLen(d *node) int {
	if d == m.root {
		return 0
	}
	for name, n := range d.up.kids {
		if n == d {
			return len(name) + min(1, m.pathLen(d.up)) + m.pathLen(d.up)
		}
	}
	panic("a Dir without a name")
}

// split is Parse, of ways whose names are right or else have a capital letter.
func split(s string) ([]string, api.Errno) {
	if len(s) > api.MaxPath {
		return nil, api.ErrMuch
	}
	if s == "" {
		return nil, api.ErrNone
	}
	if strings.ToLower(s) != s {
		return nil, api.ErrName
	}
	return slices.DeleteFunc(strings.Split(s, "/"), func(x string) bool { return x == "" || x == "." }), api.OK
}

// place is where a way leads: a name in a Dir; or, without a name, the Dir.
type place struct {
	dir  *node
	name string
}

func (m *model) at(p place) *node {
	if p.name == "" {
		return p.dir
	}
	return p.dir.kids[p.name]
}

// lead goes a way by recursion: what it has come to, always a Dir, and what is left.
func (m *model) lead(way string, follow bool) (place, api.Errno) {
	left, err := split(way)
	if err != api.OK {
		return place{}, err
	}
	hops := 0
	p, err := m.walk(m.root, left, follow, &hops)
	if err == api.OK && p.name != "" && m.pathLen(p.dir)+min(1, m.pathLen(p.dir))+len(p.name) > api.MaxPath {
		err = api.ErrMuch
	}
	return p, err
}

func (m *model) walk(d *node, left []string, follow bool, hops *int) (place, api.Errno) {
	if len(left) == 0 {
		return place{d, ""}, api.OK
	}
	name, behind := left[0], left[1:]
	if name == ".." {
		return m.walk(d.up, behind, follow, hops)
	}
	n := d.kids[name]
	last := len(behind) == 0
	switch {
	case n == nil && last:
		return place{d, name}, api.OK
	case n == nil:
		return place{}, api.ErrNone
	case n.kind == api.Dir:
		return m.walk(n, behind, follow, hops)
	case n.kind == api.Link && (!last || follow):
		*hops++
		if *hops > api.MaxHops {
			return place{}, api.ErrLoop
		}
		onward, err := split(n.text)
		if err != api.OK {
			return place{}, err
		}
		if n.text[0] == '/' {
			d = m.root
		}
		return m.walk(d, slices.Concat(onward, behind), follow, hops)
	case last:
		return place{d, name}, api.OK
	}
	return place{}, api.ErrNotDir
}

// nameOf is the place of a Dir by its own name, where one leads to it.
func (m *model) nameOf(p place) place {
	if p.name != "" || p.dir == m.root {
		return p
	}
	for name, n := range p.dir.up.kids {
		if n == p.dir {
			return place{p.dir.up, name}
		}
	}
	panic("a Dir without a name")
}

func refused(err api.Errno) api.Answer {
	return api.Answer{Err: err}
}

func (m *model) answer(c api.Call) api.Answer {
	switch {
	case c.Kind < 1 || c.Kind > 16:
		return refused(api.ErrKind)
	case c.Owner < 0 || c.Owner > 3:
		return refused(api.ErrRange)
	}
	switch c.Kind {
	case api.CallOpen:
		return m.callOpen(c)
	case api.CallRename:
		return m.callRename(c)
	case api.CallMkdir, api.CallLink, api.CallRmdir, api.CallUnlink:
		return m.callName(c)
	case api.CallList, api.CallStat:
		return m.callAsk(c)
	}
	return m.callNumber(c)
}

func (m *model) freeNumber(owner int) int {
	for fd := range api.MaxFds {
		if m.numbers[owner][fd] == nil {
			return fd
		}
	}
	return -1
}

func (m *model) callOpen(c api.Call) api.Answer {
	has := func(letters string) bool { return c.N&uses(letters) != 0 }
	if c.N < 1 || c.N > 63 || !has("rw") || has("ae") && !has("w") || has("f") && !has("c") {
		return refused(api.ErrFit)
	}
	fd := m.freeNumber(c.Owner)
	if fd < 0 {
		return refused(api.ErrMany)
	}
	p, err := m.lead(c.Path, !has("f"))
	if err != api.OK {
		return refused(err)
	}
	n := m.at(p)
	if n == nil {
		if !has("c") {
			return refused(api.ErrNone)
		}
		if len(m.tree()) == api.MaxEntries {
			return refused(api.ErrMany)
		}
		n = &node{kind: api.File}
		p.dir.kids[p.name] = n
	} else if has("f") {
		return refused(api.ErrName)
	} else if n.kind == api.Dir {
		return refused(api.ErrDir)
	}
	if has("e") {
		n.text = ""
	}
	m.numbers[c.Owner][fd] = &modelOpening{n: n, use: c.N}
	return api.Answer{N: fd}
}

func (m *model) callName(c api.Call) api.Answer {
	p, err := m.lead(c.Path, false)
	if err != api.OK {
		return refused(err)
	}
	p = m.nameOf(p)
	n := m.at(p)
	adds := c.Kind == api.CallMkdir || c.Kind == api.CallLink
	switch {
	case adds && n != nil:
		return refused(api.ErrName)
	case c.Kind == api.CallLink && len(c.To) > api.MaxText:
		return refused(api.ErrMuch)
	case c.Kind == api.CallLink && c.To == "":
		return refused(api.ErrFit)
	case adds && len(m.tree()) == api.MaxEntries:
		return refused(api.ErrMany)
	case c.Kind == api.CallMkdir:
		p.dir.kids[p.name] = newDir(p.dir)
		return api.Answer{}
	case c.Kind == api.CallLink:
		p.dir.kids[p.name] = &node{kind: api.Link, text: c.To}
		return api.Answer{}
	case n == nil:
		return refused(api.ErrNone)
	case c.Kind == api.CallRmdir && n.kind != api.Dir:
		return refused(api.ErrNotDir)
	case c.Kind == api.CallUnlink && n.kind == api.Dir:
		return refused(api.ErrDir)
	case n == m.root:
		return refused(api.ErrFit)
	case len(n.kids) > 0:
		return refused(api.ErrFull)
	}
	delete(p.dir.kids, p.name)
	return api.Answer{}
}

// longest is how many bytes the longest path below n has, from n on.
func longest(n *node) int {
	most := 0
	for name, kid := range n.kids {
		most = max(most, 1+len(name)+longest(kid))
	}
	return most
}

func (m *model) callRename(c api.Call) api.Answer {
	from, err := m.lead(c.Path, false)
	if err != api.OK {
		return refused(err)
	}
	to, err := m.lead(c.To, false)
	if err != api.OK {
		return refused(err)
	}
	from, to = m.nameOf(from), m.nameOf(to)
	n, old := m.at(from), m.at(to)
	switch {
	case n == m.root || old == m.root:
		return refused(api.ErrFit)
	case n == nil:
		return refused(api.ErrNone)
	case from == to:
		return api.Answer{}
	}
	for d := to.dir; d != m.root; d = d.up {
		if d == n {
			return refused(api.ErrFit)
		}
	}
	switch {
	case old != nil && old.kind == api.Dir && n.kind != api.Dir:
		return refused(api.ErrDir)
	case old != nil && old.kind != api.Dir && n.kind == api.Dir:
		return refused(api.ErrNotDir)
	case old != nil && len(old.kids) > 0:
		return refused(api.ErrFull)
	case m.pathLen(to.dir)+min(1, m.pathLen(to.dir))+len(to.name)+longest(n) > api.MaxPath:
		return refused(api.ErrMuch)
	}
	delete(from.dir.kids, from.name)
	to.dir.kids[to.name] = n
	n.up = to.dir
	return api.Answer{}
}

func (m *model) callAsk(c api.Call) api.Answer {
	p, err := m.lead(c.Path, true)
	if err != api.OK {
		return refused(err)
	}
	n := m.at(p)
	switch {
	case n == nil:
		return refused(api.ErrNone)
	case c.Kind == api.CallStat:
		return api.Answer{N: n.kind, Text: n.text}
	case n.kind != api.Dir:
		return refused(api.ErrNotDir)
	}
	return api.Answer{Names: names(n)}
}

func (m *model) callNumber(c api.Call) api.Answer {
	o := m.numbers[c.Owner][c.Fd]
	if o == nil {
		return refused(api.ErrNone)
	}
	switch c.Kind {
	case api.CallClose:
		delete(m.numbers[c.Owner], c.Fd)
		maps.DeleteFunc(o.n.held, func(b heldByte, _ int) bool { return b.owner == c.Owner })
		return api.Answer{}
	case api.CallDup:
		fd := m.freeNumber(c.Owner)
		if fd < 0 {
			return refused(api.ErrMany)
		}
		m.numbers[c.Owner][fd] = o
		return api.Answer{N: fd}
	case api.CallSeek:
		if c.N < 0 || c.N > api.MaxEnd {
			return refused(api.ErrRange)
		}
		o.at = c.N
		return api.Answer{}
	case api.CallLock, api.CallFree:
		return o.n.lock(c)
	case api.CallRead:
		return o.read(c.N)
	case api.CallWrite:
		return o.write(c.Text)
	}
	return o.cut(c.N)
}

// lock goes byte by byte; it does not count locks.
func (n *node) lock(c api.Call) api.Answer {
	if c.N < 0 || c.N >= c.M || c.M > api.MaxEnd {
		return refused(api.ErrRange)
	}
	as := 1
	if c.Alone {
		as = 2
	}
	for b, has := range n.held {
		if c.Kind == api.CallLock && b.owner != c.Owner && c.N <= b.at && b.at < c.M && as+has > 2 {
			return refused(api.ErrHeld)
		}
	}
	if n.held == nil {
		n.held = map[heldByte]int{}
	}
	for i := c.N; i < c.M; i++ {
		delete(n.held, heldByte{c.Owner, i})
		if c.Kind == api.CallLock {
			n.held[heldByte{c.Owner, i}] = as
		}
	}
	return api.Answer{}
}

func (o *modelOpening) read(n int) api.Answer {
	if o.use&1 == 0 {
		return refused(api.ErrFit)
	}
	if n < 0 || n > api.MaxEnd {
		return refused(api.ErrRange)
	}
	got := ""
	for len(got) < n && o.at < len(o.n.text) {
		got += o.n.text[o.at : o.at+1]
		o.at++
	}
	return api.Answer{N: len(got), Text: got}
}

func (o *modelOpening) write(text string) api.Answer {
	if o.use&2 == 0 {
		return refused(api.ErrFit)
	}
	at := o.at
	if o.use&4 != 0 {
		at = len(o.n.text)
	}
	if text != "" && at+len(text) > api.MaxText {
		return refused(api.ErrMuch)
	}
	o.at = at
	b := []byte(o.n.text)
	for i := range len(text) {
		for len(b) <= o.at {
			b = append(b, 0)
		}
		b[o.at] = text[i]
		o.at++
	}
	o.n.text = string(b)
	return api.Answer{N: len(text)}
}

func (o *modelOpening) cut(n int) api.Answer {
	if o.use&2 == 0 {
		return refused(api.ErrFit)
	}
	if n < 0 || n > api.MaxText {
		return refused(api.ErrRange)
	}
	b := make([]byte, n)
	copy(b, o.n.text)
	o.n.text = string(b)
	return api.Answer{}
}

// likeModel plays the calls, and holds all that comes of them against the model.
func likeModel(t *testing.T, tree api.Tree, u api.Union, calls []api.Call) {
	t.Helper()
	m := modelOf(tree)
	shown, answers, err := Play(u, calls)
	if err != api.OK || len(answers) != len(calls) {
		t.Fatalf("%d answers to %d calls come, and errno %d", len(answers), len(calls), err)
	}
	for i, c := range calls {
		if got, want := tell(answers[i]), tell(m.answer(c)); got != want {
			t.Fatalf("in %v, call %d of %v: %s comes, not %s", u, i, calls[:i+1], got, want)
		}
	}
	if !slices.Equal(shown.Tree, m.tree()) || shown.Open != m.open() {
		t.Fatalf("in %v, after %v: %v, %d comes, not %v, %d", u, calls, shown.Tree, shown.Open, m.tree(), m.open())
	}
	if !slices.EqualFunc(shown.Union.Lowers, u.Lowers, slices.Equal) {
		t.Fatalf("in %v, after %v: the lower layers became %v", u, calls, shown.Union.Lowers)
	}
}

// modelTrees have what calls may meet: files, links up, down, to nothing, and to themselves.
func modelTrees() []api.Tree {
	return []api.Tree{
		nil,
		readTree("a=hello b=see"),
		readTree("a/ a/b=hello c>a d=see"),
		readTree("a/ a/a/ a/a/b=deep a/b>../b b=x c>/a/a d>d"),
		readTree("a/ a/b>.. b/ b/a=1 b/b=2 c/ c/a>/b d>c/a"),
	}
}

// someCalls are calls of all kinds.
func someCalls() []api.Call {
	var l []api.Call
	add := func(lines ...string) {
		for _, s := range lines {
			l = append(l, readCall(s))
		}
	}
	for _, p := range []string{"a", "b", "a/b", "c", "c/b", "d", "a/a"} {
		add("0 open "+p+" rw", "1 open "+p+" rwac", "0 open "+p+" rwcf", "1 open "+p+" we")
		add("0 mkdir "+p, "0 rmdir "+p, "0 unlink "+p, "0 stat "+p, "0 list "+p, "0 link "+p+" ../b", "0 link "+p+" /a")
		for _, q := range []string{"a", "b", "a/b", "c", "c/a", "a/a/b"} {
			add("0 rename " + p + " " + q)
		}
	}
	for _, fd := range []string{"0", "1"} {
		for _, owner := range []string{"0", "1"} {
			for _, s := range []string{"close #", "dup #", "read # 3", "write # xyz", `write # ""`, "seek # 1", "seek # 9", "cut # 2", "cut # 7", "lock # 1 4", "alone # 2 5", "free # 2 3"} {
				add(owner + " " + strings.ReplaceAll(s, "#", fd))
			}
		}
	}
	add("0 stat ..", "0 stat a/..", "0 list /", "0 rmdir /", "0 unlink ..", "0 rename a /", "0 stat c/..", "0 open .. r", "0 stat A", "4 stat a", "0 kind 17")
	return l
}

// All pairs of calls, with something open ahead of them.
func TestPairsAgainstModel(t *testing.T) {
	first := readScript(`
		0 open a rwc: 0
		1 open a/b rwa: 0
		0 open b rw: 1
	`).calls
	last := readScript(`
		0 write 0 w: 1
		1 write 0 w: 1
		0 read 0 99: 0
		1 read 0 99: 0
		0 read 1 99: 0
		1 read 1 99: 0
		0 alone 0 0 9: 0
		1 alone 0 0 9: 0
	`).calls
	all := someCalls()
	for _, tree := range modelTrees() {
		u := api.Union{Lowers: []api.Tree{tree}}
		t.Run(tellTree(tree), func(t *testing.T) {
			t.Parallel()
			for _, x := range all {
				for _, y := range all {
					likeModel(t, tree, u, slices.Concat(first, []api.Call{x, y}, last))
				}
			}
		})
	}
}

// Long rows of calls, in all the ways in which a tree may be layered.
func TestRowsAgainstModel(t *testing.T) {
	all := someCalls()
	for _, tree := range modelTrees() {
		t.Run(tellTree(tree), func(t *testing.T) {
			t.Parallel()
			for seed := range uint64(300) {
				calls := row(all, seed)
				for _, u := range layered(tree) {
					likeModel(t, tree, u, calls)
				}
			}
		})
	}
}

// row is as many of these calls as there may be, mixed; the same seed mixes them alike.
func row(all []api.Call, seed uint64) []api.Call {
	var calls []api.Call
	for range api.MaxCalls {
		seed = seed*6364136223846793005 + 1442695040888963407
		calls = append(calls, all[seed>>33%uint64(len(all))])
	}
	return calls
}
