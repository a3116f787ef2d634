package union

import (
	"slices"
	"strings"
	"testing"

	"tracings/api"
	"tracings/tree"
)

// modelPaths rise; some are others' directories, and some begin with others' bytes.
func modelPaths() []string { return []string{"a", "a/b", "a/b/c", "a1"} }

// allLayers are all right layers of these paths, with nothing at each, or an entry that ends in one of these ways.
func allLayers(paths []string, ends ...string) []api.Tree {
	all := []api.Tree{nil}
	for _, p := range paths {
		for _, l := range all {
			if dir := dirOf(p); dir != "" && at(l, dir).Kind != api.Dir {
				continue
			}
			for _, end := range ends {
				all = append(all, append(slices.Clone(l), readOne(p+end)))
			}
		}
	}
	return all
}

func dirOf(p string) string { return p[:max(0, strings.LastIndex(p, "/"))] }

func below(p, dir string) bool { return strings.HasPrefix(p, dir+"/") }

func at(l api.Tree, p string) api.Entry {
	for _, e := range l {
		if e.Path == p {
			return e
		}
	}
	return api.Entry{}
}

// modelLook goes down layer by layer, and tells what is seen at p, and in which one.
func modelLook(l []api.Tree, p string) (api.Entry, int) {
	for i, one := range l {
		if e := at(one, p); e.Kind == api.White {
			return api.Entry{}, 0
		} else if e.Kind != 0 {
			e.Opaque = false
			return e, i
		}
		if closed(one, p) {
			return api.Entry{}, 0
		}
	}
	return api.Entry{}, 0
}

// closed tells whether a directory above p is none in l, or is Opaque.
func closed(l api.Tree, p string) bool {
	for dir := dirOf(p); dir != ""; dir = dirOf(dir) {
		if e := at(l, dir); e.Opaque || e.Kind != 0 && e.Kind != api.Dir {
			return true
		}
	}
	return false
}

func modelSeen(l []api.Tree, paths []string) api.Tree {
	var seen api.Tree
	for _, p := range paths {
		if e, _ := modelLook(l, p); e.Kind != 0 {
			seen = append(seen, e)
		}
	}
	return seen
}

// model is an upper layer as the chapter speaks of it: what is at which path, in no order; lowers are never changed.
type model struct {
	upper  map[string]api.Entry
	lowers []api.Tree
}

func modelOf(u api.Union) model {
	m := model{map[string]api.Entry{}, u.Lowers}
	for _, e := range u.Upper {
		m.upper[e.Path] = e
	}
	return m
}

func (m model) layer() api.Tree {
	var l api.Tree
	for _, e := range m.upper {
		l = append(l, e)
	}
	slices.SortFunc(l, func(a, b api.Entry) int {
		return slices.Compare(strings.Split(a.Path, "/"), strings.Split(b.Path, "/"))
	})
	return l
}

func (m model) have(e api.Entry) {
	if dir := dirOf(e.Path); dir != "" && m.upper[dir].Kind != api.Dir {
		m.have(readOne(dir + "/"))
	}
	if e.Kind == api.Dir && (m.upper[e.Path].Kind == api.White || m.upper[e.Path].Opaque) {
		e.Opaque = true
	}
	m.upper[e.Path] = e
}

func (m model) drop(p string) {
	for q := range m.upper {
		if q == p || below(q, p) {
			delete(m.upper, q)
		}
	}
	if e, _ := modelLook(m.lowers, p); e.Kind != 0 && !closed(m.layer(), p) {
		m.have(readOne(p + "-"))
	}
}

func (m model) move(seen api.Tree, from, to string) {
	if from == to {
		return
	}
	if at(seen, to).Kind != 0 {
		m.drop(to)
	}
	m.drop(from)
	for _, e := range seen {
		if e.Path == from || below(e.Path, from) {
			e.Path = to + strings.TrimPrefix(e.Path, from)
			m.have(e)
		}
	}
}

// likeModel holds the answer against the model, and what is seen of it against the tree that was changed as if there were no layers.
func likeModel(t *testing.T, u, got api.Union, err api.Errno, m model, want api.Tree, wantErr api.Errno) {
	t.Helper()
	if err != wantErr {
		t.Fatalf("%d comes of %v, not %d", err, u, wantErr)
	}
	if err != api.OK {
		if !equal(got, api.Union{}) {
			t.Fatalf("%v comes of %v beside %d", got, u, err)
		}
		return
	}
	if !equal(got, api.Union{Upper: m.layer(), Lowers: u.Lowers}) {
		t.Fatalf("%v comes of %v, not %v", got, u, m.layer())
	}
	if seen, err := Seen(got); err != api.OK || !slices.Equal(seen, want) {
		t.Fatalf("%v, %d is seen of %v, not %v", seen, err, got, want)
	}
}

func againstModel(t *testing.T, u api.Union) {
	t.Helper()
	paths := append(modelPaths(), "a1/c", "b")
	seen, err := Seen(u)
	if want := modelSeen(layers(u), paths); err != api.OK || !slices.Equal(seen, want) {
		t.Fatalf("Seen(%v) is %v, %d, not %v", u, seen, err, want)
	}
	for _, p := range paths {
		e, number, err := Look(u, p)
		want, wantNumber := modelLook(layers(u), p)
		if e != want || number != wantNumber || (err == api.OK) != (want.Kind != 0) {
			t.Fatalf("Look(%v, %q) is %v, %d, %d, not %v, %d", u, p, e, number, err, want, wantNumber)
		}
		for _, end := range []string{"=new", ">new", "/"} {
			m, e := modelOf(u), readOne(p+end)
			m.have(e)
			want, wantErr := tree.Put(seen, e)
			got, err := Put(u, e)
			likeModel(t, u, got, err, m, want, wantErr)
		}
		m := modelOf(u)
		m.drop(p)
		wantTree, wantErr := tree.Remove(seen, p)
		got, err := Remove(u, p)
		likeModel(t, u, got, err, m, wantTree, wantErr)
		for _, q := range paths {
			m := modelOf(u)
			m.move(seen, p, q)
			want, wantErr := tree.Move(seen, p, q)
			got, err := Move(u, p, q)
			likeModel(t, u, got, err, m, want, wantErr)
		}
	}
}

func TestAgainstModel(t *testing.T) {
	lowers := allLayers(modelPaths(), "=lower", "/")
	for _, upper := range allLayers(modelPaths(), "=upper", "/", "/!", "-") {
		againstModel(t, of(upper))
		for _, lower := range lowers {
			againstModel(t, of(upper, lower))
		}
	}
}

func TestAgainstModelWithMoreLayers(t *testing.T) {
	few := []string{"a", "a/b"}
	uppers := allLayers(few, "=upper", "/", "/!", "-")
	middles := allLayers(few, "=middle", "/", "/!", "-")
	for _, upper := range uppers {
		for _, middle := range middles {
			for _, lower := range allLayers(few, "=lower", "/") {
				againstModel(t, of(upper, middle, lower))
			}
		}
	}
}

// What comes of it: layer by layer as all at once. Lower layers that are merged to one are changed over in the same way.
func TestLayerByLayerAsAllAtOnce(t *testing.T) {
	few := []string{"a", "a/b", "c"}
	lowers := allLayers(few, "=lower", "/", "-")
	for _, upper := range allLayers(few[:2], "=upper", "/", "/!", "-") {
		for i, middle := range allLayers(few, "=middle", "/!", "-") {
			u := of(upper, middle, lowers[i%len(lowers)], lowers[i*7%len(lowers)])
			once, err := Seen(api.Union{Lowers: u.Lowers})
			if err != api.OK {
				t.Fatalf("Seen is %d", err)
			}
			for _, c := range []call{
				put(readOne("a")), put(readOne("a/")), put(readOne("a/b/")), put(readOne("a/b/c")), put(readOne("c")), put(readOne("c/")),
				remove("a"), remove("a/b"), remove("c"), move("a", "c"), move("c", "a"), move("a/b", "c"), move("c", "a/b"), move("a", "a"),
			} {
				got, err := c.make(u)
				other, otherErr := c.make(of(upper, once))
				if err != otherErr || !slices.Equal(got.Upper, other.Upper) {
					t.Fatalf("%s in %v is %v, %d, and all at once %v, %d", c.name, u, got.Upper, err, other.Upper, otherErr)
				}
			}
		}
	}
}

// walk makes n calls in turn, chosen by a rule that never changes, and tells what is seen from the one tree as if there were no layers.
func walk(t *testing.T, u api.Union, n int) {
	t.Helper()
	paths := []string{"a", "a/b", "a/b/c", "a/d", "a/d/e", "b", "b/a", "c"}
	number := uint32(1)
	choose := func(l []string) string {
		number = number*1664525 + 1013904223
		return l[int(number>>16)%len(l)]
	}
	first := cloned(u)
	seen, _ := Seen(u)
	done := 0
	for range n {
		var c call
		var want api.Tree
		var wantErr api.Errno
		switch p := choose(paths); choose([]string{"put", "remove", "move"}) {
		case "put":
			e := readOne(p + choose([]string{"", "=x", ">y", "/"}))
			c = put(e)
			want, wantErr = tree.Put(seen, e)
		case "remove":
			c = remove(p)
			want, wantErr = tree.Remove(seen, p)
		case "move":
			to := choose(paths)
			c = move(p, to)
			want, wantErr = tree.Move(seen, p, to)
		}
		next, err := c.make(u)
		if err != wantErr {
			t.Fatalf("%s in %v is %d, not %d", c.name, u, err, wantErr)
		}
		if err != api.OK {
			continue
		}
		done++
		u, seen = next, want
		if got, err := Seen(u); err != api.OK || !slices.Equal(got, seen) {
			t.Fatalf("after %s %v, %d is seen of %v, not %v", c.name, got, err, u, seen)
		}
		if !equal(api.Union{Lowers: u.Lowers}, api.Union{Lowers: first.Lowers}) {
			t.Fatalf("after %s the lower layers are %v", c.name, u.Lowers)
		}
	}
	if done < n/10 {
		t.Errorf("only %d calls of %d changed something", done, n)
	}
}

// What comes of it: it is as if there were one tree; what lies below is never touched.
func TestAsIfThereWereOneTree(t *testing.T) {
	for _, s := range []string{
		"",
		"| a/ a/b/ a/b/c=1 a/d b/ b/a>x c",
		"a/! a/b | a/ a/b/ a/b/c=1 a/d b/ b/a>x c",
		"c- | a/ a/d- b/! | a/ a/b/ a/b/c=1 a/d/ a/d/e b/ b/a c | c/",
		"a- b | a | a/ a/b/ | a/! a/b/ a/b/c b- | b/ b/a",
	} {
		walk(t, readUnion(s), 3000)
	}
}
