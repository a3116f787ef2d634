package path

import (
	"slices"
	"strings"
	"testing"

	"tracings/api"
)

// ofBytes is a clean path of n bytes, from 2 on.
func ofBytes(n int) string {
	if n%2 == 0 {
		return "ab" + strings.Repeat("/c", n/2-1)
	}
	return "a" + strings.Repeat("/c", n/2)
}

// texts are all texts of the parts, from none to most of them in a row.
func texts(parts []string, most int) []string {
	all := []string{""}
	for from := 0; most > 0; most-- {
		to := len(all)
		for _, s := range all[from:to] {
			for _, p := range parts {
				all = append(all, s+p)
			}
		}
		from = to
	}
	return all
}

func TestNamed(t *testing.T) {
	right := []string{"a", "z", "0", "9", "a1", "1a", "abc", strings.Repeat("z", api.MaxName)}
	for _, s := range right {
		if !Named(s) {
			t.Errorf("Named(%q) is false", s)
		}
	}
	wrong := []string{"", ".", "..", "/", "a/b", "/a", "a/", "A", "aB", "a-b", "a_b", "a b", " a", "a\n", "a.", "a\x00", "\x00", "é", "\xff",
		strings.Repeat("z", api.MaxName+1), strings.Repeat("z", 1000)}
	for _, s := range wrong {
		if Named(s) {
			t.Errorf("Named(%q) is true", s)
		}
	}
}

func TestNamedEachByte(t *testing.T) {
	for c := range 256 {
		want := strings.IndexByte("abcdefghijklmnopqrstuvwxyz0123456789", byte(c)) >= 0
		one := string([]byte{byte(c)})
		for _, s := range []string{one, "a" + one, one + "a", "a" + one + "a"} {
			if Named(s) != want {
				t.Errorf("Named(%q) is not %v", s, want)
			}
		}
	}
}

func TestClean(t *testing.T) {
	name := strings.Repeat("z", api.MaxName)
	right := []string{"a", "a/b", "a/b/c", "a/a", "1/2", name, name + "/" + name, ofBytes(api.MaxPath - 1), ofBytes(api.MaxPath)}
	for _, s := range right {
		if !Clean(s) {
			t.Errorf("Clean(%q) is false", s)
		}
	}
	wrong := []string{"", "/", "//", "/a", "a/", "a//b", "/a/b", "a/b/", ".", "..", "./a", "a/.", "a/./b", "../a", "a/..", "a/../b",
		"A", "a/B", "B/a", "a b", "a/b-c/d", "a/\xff", name + "z", "a/" + name + "z", name + "z/a",
		ofBytes(api.MaxPath + 1), ofBytes(api.MaxPath + 2), strings.Repeat("/", api.MaxPath+1)}
	for _, s := range wrong {
		if Clean(s) {
			t.Errorf("Clean(%q) is true", s)
		}
	}
}

func TestCutAndJoin(t *testing.T) {
	for _, x := range []struct{ s, dir, name string }{
		{"", "", ""},
		{"a", "", "a"},
		{"a/b", "a", "b"},
		{"a/b/c", "a/b", "c"},
		{"/", "", ""},
		{"/a", "", "a"},
		{"a/", "a", ""},
		{"a//b", "a/", "b"},
		{"//", "/", ""},
		{"a/..", "a", ".."},
		{"./a", ".", "a"},
		{"A-\xff/é", "A-\xff", "é"},
	} {
		if dir, name := Cut(x.s); dir != x.dir || name != x.name {
			t.Errorf("Cut(%q) is %q, %q, not %q, %q", x.s, dir, name, x.dir, x.name)
		}
	}
	for _, x := range []struct{ dir, name, s string }{
		{"", "", ""},
		{"", "a", "a"},
		{"", "/a", "/a"},
		{"a", "", "a/"},
		{"a", "b", "a/b"},
		{"a/b", "c", "a/b/c"},
		{"a", "b/c", "a/b/c"},
		{"a/", "b", "a//b"},
		{"/", "a", "//a"},
		{"..", ".", "../."},
	} {
		if s := Join(x.dir, x.name); s != x.s {
			t.Errorf("Join(%q, %q) is %q, not %q", x.dir, x.name, s, x.s)
		}
	}
}

// A path is cut, and joined: only a `/` that comes first, and alone, is lost.
func TestJoinOfCut(t *testing.T) {
	for _, s := range texts([]string{"a", "b", ".", "/"}, 5) {
		want := s
		if strings.LastIndex(s, "/") == 0 {
			want = s[1:]
		}
		if got := Join(Cut(s)); got != want {
			t.Errorf("%q, cut and joined, is %q", s, got)
		}
	}
}

func TestUnder(t *testing.T) {
	for _, x := range []struct {
		s, dir string
		want   bool
	}{
		{"a/b", "a", true},
		{"a/b/c", "a", true},
		{"a/b/c", "a/b", true},
		{"a/", "a", true},
		{"a//b", "a/", true},
		{"./a", ".", true},
		{"a", "", true},
		{"a/b", "", true},
		{"/", "", true},
		{"", "", false},
		{"", "a", false},
		{"a", "a", false},
		{"a", "a/b", false},
		{"ab", "a", false},
		{"ab/c", "a", false},
		{"b/a", "a", false},
		{"b/a/c", "a", false},
		{"a/b", "a/", false},
		{"a-b", "a", false},
		{"b/c", "a", false},
		{"/a", "a", false},
	} {
		if Under(x.s, x.dir) != x.want {
			t.Errorf("Under(%q, %q) is not %v", x.s, x.dir, x.want)
		}
	}
}

func TestParse(t *testing.T) {
	long := ofBytes(api.MaxPath)
	for _, x := range []struct {
		s     string
		names []string
	}{
		{"a", []string{"a"}},
		{"a/b", []string{"a", "b"}},
		{"/a/./b/../c", []string{"a", "b", "..", "c"}},
		{"..", []string{".."}},
		{"../..", []string{"..", ".."}},
		{"/..", []string{".."}},
		{"/a", []string{"a"}},
		{"a/", []string{"a"}},
		{"a//b", []string{"a", "b"}},
		{"//a///b//", []string{"a", "b"}},
		{"./a", []string{"a"}},
		{"a/.", []string{"a"}},
		{"b/a/b", []string{"b", "a", "b"}},
		{".", nil},
		{"/", nil},
		{"./.", nil},
		{"/./", nil},
		{strings.Repeat("/", api.MaxPath), nil},
		{strings.Repeat("z", api.MaxName), []string{strings.Repeat("z", api.MaxName)}},
		{long, strings.Split(long, "/")},
	} {
		names, err := Parse(x.s)
		if err != api.OK || !slices.Equal(names, x.names) {
			t.Errorf("Parse(%q) is %q, %d, not %q", x.s, names, err, x.names)
		}
	}
}

func TestParseWrong(t *testing.T) {
	for _, x := range []struct {
		s   string
		err api.Errno
	}{
		{"", api.ErrNone},
		{"A", api.ErrName},
		{"...", api.ErrName},
		{"a/...", api.ErrName},
		{"a/.b", api.ErrName},
		{"a/b-c", api.ErrName},
		{"a/ /b", api.ErrName},
		{"a/b/\x00", api.ErrName},
		{"é/a", api.ErrName},
		{strings.Repeat("z", api.MaxName+1), api.ErrName},
		{"a/" + strings.Repeat("z", api.MaxName+1) + "/b", api.ErrName},
		{strings.Repeat("z", api.MaxPath), api.ErrName},
		{strings.Repeat("z", api.MaxPath+1), api.ErrMuch},
		{strings.Repeat("/", api.MaxPath+1), api.ErrMuch},
		{strings.Repeat("A", api.MaxPath+1), api.ErrMuch},
		{ofBytes(api.MaxPath + 1), api.ErrMuch},
	} {
		names, err := Parse(x.s)
		if err != x.err || len(names) != 0 {
			t.Errorf("Parse(%q) is %q, %d, not %d", x.s, names, err, x.err)
		}
	}
}

// Z2: whoever changes an answer, or fills its spare room, changes no other one.
func TestParseAnswersNewMemory(t *testing.T) {
	first, _ := Parse("a/b/c")
	second, _ := Parse("a/b/c")
	clear(first[:cap(first)])
	if !slices.Equal(second, []string{"a", "b", "c"}) {
		t.Errorf("one answer changed is another one changed: %q", second)
	}
}

// What Parse takes of a clean path are its names: it can be joined again.
func TestParseOfClean(t *testing.T) {
	for _, s := range texts([]string{"a", "b", "/"}, 6) {
		if !Clean(s) {
			continue
		}
		names, err := Parse(s)
		if err != api.OK || strings.Join(names, "/") != s {
			t.Errorf("Parse(%q) is %q, %d", s, names, err)
		}
	}
}

func TestCompareRises(t *testing.T) {
	rising := []string{"", "/", "//", "/a", "\x00", "\x00/a", ".", "./a", "..", "A", "a", "a/", "a//b", "a/B", "a/b", "a/b/c", "a/c",
		"a\x00", "a-b", "a.b", "a1", "a1/b", "ab", "ab/a", "b", "b/a", "é", "\xff"}
	for i, a := range rising {
		for j, b := range rising {
			got := Compare(a, b)
			if (got < 0) != (i < j) || (got > 0) != (i > j) {
				t.Errorf("Compare(%q, %q) is %d", a, b, got)
			}
		}
	}
}

func TestComparePartByPart(t *testing.T) {
	all := texts([]string{"a", "b", "/", "\x00", "."}, 4)
	for _, a := range all {
		for _, b := range all {
			got, want := Compare(a, b), slices.Compare(strings.Split(a, "/"), strings.Split(b, "/"))
			if (got < 0) != (want < 0) || (got > 0) != (want > 0) {
				t.Fatalf("Compare(%q, %q) is %d, not like %d", a, b, got, want)
			}
		}
	}
}

// A directory comes first, and all that lies below it comes right behind it.
func TestCompareKeepsDirectoriesTogether(t *testing.T) {
	var all []string
	for _, s := range texts([]string{"a", "b", "0", "/"}, 5) {
		if Clean(s) {
			all = append(all, s)
		}
	}
	slices.SortFunc(all, Compare)
	for i, dir := range all {
		for i++; i < len(all) && Under(all[i], dir); i++ {
		}
		for ; i < len(all); i++ {
			if Under(all[i], dir) {
				t.Fatalf("%q does not stand right behind %q", all[i], dir)
			}
		}
	}
}

// Z1: every call ends, also with more than any path may have.
func TestGreatTexts(t *testing.T) {
	for _, s := range []string{strings.Repeat("a", 1<<20), strings.Repeat("/", 1<<20), strings.Repeat("a/", 1<<19), strings.Repeat("\xff", 1<<20)} {
		if Named(s) || Clean(s) {
			t.Errorf("%d bytes are a name, or clean", len(s))
		}
		if _, err := Parse(s); err != api.ErrMuch {
			t.Errorf("Parse of %d bytes is %d", len(s), err)
		}
		if Compare(s, s) != 0 || Compare(s, s+"a") >= 0 || Compare(s+"a", s) <= 0 {
			t.Errorf("Compare of %d bytes", len(s))
		}
		if !Under(s+"/", s) || Under(s, s+"/") {
			t.Errorf("Under of %d bytes", len(s))
		}
	}
}
