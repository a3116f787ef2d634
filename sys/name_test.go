package sys

import (
	"testing"

	"tracings/api"
)

func TestMkdirAndLink(t *testing.T) {
	answered(t, "a/ a/b=hello c=see d>a s>s", `
		0 mkdir e: 0
		0 mkdir a/e: 0
		0 mkdir d/f: 0
		0 mkdir e/g/: 0
		0 list e: 0 [g]
		0 list a: 0 [b e f]
		0 link l /e: 0
		0 link a/l B: 0
		0 link k nowhere: 0
		0 link e/h x*100: 0
		0 list l: 0 [g h]

		Something is there.
		0 mkdir a: ErrName
		0 mkdir c: ErrName
		0 mkdir d: ErrName
		0 mkdir k: ErrName
		0 mkdir /: ErrName
		0 mkdir a/..: ErrName
		0 link a x: ErrName
		0 link c x: ErrName
		0 link k x: ErrName
		0 link / x: ErrName
		0 link c "": ErrName
		0 link c x*101: ErrName

		The way.
		0 mkdir "": ErrNone
		0 mkdir A: ErrName
		0 mkdir no/x: ErrNone
		0 mkdir c/x: ErrNotDir
		0 mkdir s/x: ErrLoop
		0 link "" x: ErrNone
		0 link A x: ErrName
		0 link no/x x: ErrNone
		0 link c/x "": ErrNotDir
		0 link k/x "": ErrNone
		0 link s/x "": ErrLoop

		Put.
		0 link m "": ErrFit
		0 link m x*101: ErrMuch
		0 stat m: ErrNone
	`, "a/ a/b=hello a/e/ a/f/ a/l>B c=see d>a e/ e/g/ e/h>x*100 k>nowhere l>/e s>s", 0)
}

func TestRmdirAndUnlink(t *testing.T) {
	answered(t, "a/ a/b=hello a/e/ c=see d>a k>nowhere s>s", `
		0 rmdir a: ErrFull
		0 rmdir a/b: ErrNotDir
		0 rmdir c: ErrNotDir
		0 rmdir d: ErrNotDir
		0 rmdir k: ErrNotDir
		0 rmdir no: ErrNone
		0 rmdir a/no: ErrNone
		0 rmdir no/x: ErrNone
		0 rmdir c/x: ErrNotDir
		0 rmdir s/x: ErrLoop
		0 rmdir "": ErrNone
		0 rmdir A: ErrName
		0 rmdir /: ErrFit
		0 rmdir a/..: ErrFit
		0 unlink a: ErrDir
		0 unlink a/e: ErrDir
		0 unlink /: ErrDir
		0 unlink ..: ErrDir
		0 unlink no: ErrNone
		0 unlink no/x: ErrNone
		0 unlink c/x: ErrNotDir
		0 unlink s/x: ErrLoop
		0 unlink "": ErrNone
		0 unlink A: ErrName
		0 rmdir d/e: 0
		0 rmdir d/e: ErrNone
		0 rmdir a: ErrFull
		0 unlink d/b: 0
		0 unlink d/b: ErrNone
		0 rmdir a: 0
		0 unlink d: 0
		0 unlink k: 0
		0 unlink s: 0
		0 list /: 0 [c]
		0 unlink c: 0
		0 list /: 0
	`, "", 0)
}

func TestRename(t *testing.T) {
	answered(t, "a/ a/b=hello a/e/ c=see d>a f/ k>nowhere s>s", `
		0 rename c g: 0
		0 stat c: ErrNone
		0 stat g: 1 see
		0 rename g d/g: 0
		0 stat a/g: 1 see
		0 rename a/g a/b: 0
		0 stat a/b: 1 see
		0 rename a f: 0
		0 list f: 0 [b e]
		0 stat d: ErrNone
		0 rename d d: 0
		0 rename f/ /f/e/..: 0
		0 rename k f/b: 0
		0 stat f/b: ErrNone
		0 list f: 0 [b e]
		0 rename f f: 0

		The ways: Path's, then To's.
		0 rename "" A: ErrNone
		0 rename A "": ErrName
		0 rename no/x A: ErrNone
		0 rename s/x no/x: ErrLoop
		0 rename no A: ErrName
		0 rename no "": ErrNone
		0 rename f A: ErrName
		0 rename f s/x: ErrLoop
		0 rename f f/b/x: ErrNone
		0 rename / A: ErrName
		0 rename / no/x: ErrNone

		The empty path.
		0 rename / x: ErrFit
		0 rename f /: ErrFit
		0 rename f f/..: ErrFit
		0 rename no /: ErrFit
		0 rename / /: ErrFit

		Move's.
		0 rename no x: ErrNone
		0 rename no no: ErrNone
		0 rename f f/e/x: ErrFit
		0 rename f f/x: ErrFit
		0 mkdir g: 0
		0 rename f/b g: ErrDir
		0 rename g f/b: ErrNotDir
		0 rename g f: ErrFull
		0 list /: 0 [d f g s]
	`, "d>a f/ f/b>nowhere f/e/ g/ s>s", 0)
}

// Below a path that is too long nothing is moved.
func TestRenameOfLongPaths(t *testing.T) {
	tree, p := deep(api.MaxPath - 5)
	u := api.Union{Upper: append(tree, readTree("m/ m/n o/ o/pq")...)}
	for lines, want := range map[string]api.Tree{
		"0 open m/n r: 0\n 0 rename m l/m: 0\n 0 stat l/m/n: 1":                append(append(api.Tree{}, tree[:len(tree)-1]...), readTree(p+"/m/ "+p+"/m/n l>"+p+" o/ o/pq")...),
		"0 open o/pq r: 0\n 0 rename o l/m: 0\n 0 stat l/m/pq: 1":              append(append(api.Tree{}, tree[:len(tree)-1]...), readTree(p+"/m/ "+p+"/m/pq l>"+p+" m/ m/n")...),
		"0 open o/pq r: 0\n 0 rename o l/op: ErrMuch\n 0 rename o/pq o/pqr: 0": append(append(api.Tree{}, tree...), readTree("m/ m/n o/ o/pqr")...),
		"0 open o/pq r: 0\n 0 rename o l/opq: ErrMuch\n 0 stat o/pq: 1":        u.Upper,
	} {
		plays(t, u, readScript(lines), end{tellTree(want), tellTree(want), 1})
	}
}

// An open file goes where its path is moved, by itself or with what it lies in.
func TestOpenFilesAreMoved(t *testing.T) {
	answered(t, "a/ a/b=hello a/c/ a/c/d=deep ab=near x/", `
		0 open a/b rw: 0
		0 open a/c/d rwa: 1
		0 open ab rw: 2
		0 rename a/b e: 0
		0 write 0 H: 1
		0 stat e: 1 Hello
		0 rename a f: 0
		0 write 1 !: 1
		0 write 2 N: 1
		0 stat f/c/d: 1 deep!
		0 stat ab: 1 Near
		0 rename f x/f: 0
		0 rename x/f/c g: 0
		0 write 1 !: 1
		0 stat g/d: 1 deep!!
		0 rename g/d g/d: 0
		0 write 1 !: 1
		0 stat g/d: 1 deep!!!
		0 rename x y: 0

		There is still one open file for each path.
		1 open e r: 0
		1 alone 0 0 9: 0
		0 lock 0 8 9: ErrHeld
		1 open g/d rwc: 1
		1 cut 1 1: 0
		0 write 1 ?: 1
		1 read 1 9: 2 d?

		Where it was, another one may be.
		1 open ab we: 2
		1 rename ab ac: 0
		1 open ab rwcf: 3
		1 write 3 new: 3
		0 read 2 9: 0
		0 write 2 x: 1
		0 stat ac: 1 \0x
		0 stat ab: 1 new
	`, `ab=new ac=\0x e=Hello g/ g/d=d? y/ y/f/`, 4)
}

// An open file whose path is removed, or something else is moved to, has the text that it had, and what becomes of it nobody else sees.
func TestOpenFilesWithoutPath(t *testing.T) {
	answered(t, "a/ a/b=hello c=see d>c e=end", `
		0 open a/b rw: 0
		0 open a/b rwa: 1
		1 open a/b r: 0
		1 alone 0 3 5: 0
		0 unlink a/b: 0
		0 read 0 3: 3 hel
		0 write 1 !: 1
		0 read 0 9: 3 lo!
		1 read 0 9: 6 hello!
		0 stat a/b: ErrNone
		0 list a: 0

		Its locks are its own, as they were.
		0 lock 0 4 6: ErrHeld
		0 lock 0 5 6: 0

		A new one at that path is another one.
		2 open a/b rwcf: 0
		2 alone 0 0 1000: 0
		2 write 0 new: 3
		1 read 0 9: 0
		0 cut 0 2: 0
		1 seek 0 0: 0
		1 read 0 9: 2 he
		0 stat a/b: 1 new
		0 dup 0: 2
		0 seek 2 4: 0
		0 write 2 x: 1
		1 read 0 9: 3 \0\0x
		0 write 1 y*96: ErrMuch
		0 write 1 y*95: 95
		1 read 0 99: 95 y*95

		Something else is moved to the new one.
		0 rename c a/b: 0
		2 read 0 9: 0
		2 write 0 er: 2
		2 seek 0 0: 0
		2 read 0 9: 5 newer
		0 stat a/b: 1 see
		2 open a/b r: 1
		2 read 1 9: 3 see

		A Link likewise; what is moved to where a Link stands stays open.
		0 rename d a/b: 0
		2 seek 1 1: 0
		2 read 1 9: 2 ee
		2 open e rw: 2
		0 rename e a/b: 0
		2 write 2 END: 3
		2 stat a/b: 1 END
	`, "a/ a/b=END", 4)
}

// What was removed is put nowhere, even if its directory is gone, or something stands there.
func TestWriteToRemoved(t *testing.T) {
	answered(t, "a/ a/b=hello c=see", `
		0 open a/b rw: 0
		0 open c rw: 1
		0 unlink a/b: 0
		0 rmdir a: 0
		0 write 0 H: 1
		0 unlink c: 0
		0 mkdir c: 0
		0 mkdir c/x: 0
		0 write 1 S: 1
		0 rename c d: 0
		0 write 1 E: 1
		0 seek 0 0: 0
		0 read 0 9: 5 Hello
		0 seek 1 0: 0
		0 read 1 9: 3 SEe
		0 list d: 0 [x]
		0 close 1: 0
	`, "d/ d/x/", 1)
}

// A file to which no number leads is not open: removed, it is gone; and how many are open is told.
func TestHowManyAreOpen(t *testing.T) {
	for lines, want := range map[string]int{
		"0 open a r: 0":                                                   1,
		"0 open a r: 0\n 1 open a r: 0":                                   1,
		"0 open a r: 0\n 0 open b r: 1":                                   2,
		"0 open a r: 0\n 0 unlink a: 0":                                   1,
		"0 open a r: 0\n 0 unlink a: 0\n 0 close 0: 0":                    0,
		"0 open a r: 0\n 0 unlink a: 0\n 0 open a rc: 1":                  2,
		"0 open a r: 0\n 0 dup 0: 1\n 0 close 0: 0":                       1,
		"0 open a r: 0\n 0 dup 0: 1\n 0 close 0: 0\n 0 close 1: 0":        0,
		"0 open a r: 0\n 0 open b r: 1\n 0 rename a b: 0":                 2,
		"0 open a r: 0\n 0 open b r: 1\n 0 rename a b: 0\n 0 open b r: 2": 2,
		"0 open a r: 0\n 0 open b r: 1\n 0 unlink a: 0\n 0 unlink b: 0":   2,
		"0 open a r: 0\n 1 open b r: 0\n 2 open c wc: 0\n 3 open d wc: 0\n 3 close 0: 0\n 0 stat d: 1\n 3 unlink d: 0": 3,
	} {
		for _, u := range layered(readTree("a=x b=y")) {
			shown, answers, err := Play(u, readScript(lines).calls)
			if err != api.OK || shown.Open != want {
				t.Errorf("%d are open after %s, not %d: %v", shown.Open, lines, want, answers)
			}
		}
	}
}

func TestStatAndList(t *testing.T) {
	answered(t, "a/ a/b=hello a/c/ a/c/d a/e>b f=x*100", `
		0 stat a: 2
		0 stat a/b: 1 hello
		0 stat a/c/d: 1
		0 stat a/e: 1 hello
		0 stat f: 1 x*100
		0 list a: 0 [b c e]
		0 list a/c: 0 [d]
		0 list /: 0 [a f]
		0 list f: ErrNotDir
		0 list a/e: ErrNotDir
		0 list no: ErrNone
		0 stat no: ErrNone
		0 unlink a/c/d: 0
		0 list a/c: 0
		0 stat a/c: 2
	`, "a/ a/b=hello a/c/ a/e>b f=x*100", 0)
}

// The upper layer alone changes, as package union changes it.
func TestUpperLayer(t *testing.T) {
	for _, x := range []struct {
		u, lines, upper, tree string
	}{
		{"| a/ a/b=hello c=see", "0 unlink a/b: 0", "a/ a/b-", "a/ c=see"},
		{"| a/ a/b=hello c=see", "0 rename c a/b: 0", "a/ a/b=see c-", "a/ a/b=see"},
		{"| a/ a/b=hello c=see", "0 rename a d: 0\n 0 mkdir a: 0", "a/! d/ d/b=hello", "a/ c=see d/ d/b=hello"},
		{"| a/ a/b=hello | c=see", "0 unlink c: 0\n 0 open c wc: 0\n 0 write 0 new: 3\n 0 close 0: 0", "c=new", "a/ a/b=hello c=new"},
		{"a/ a/x | a/ a/b=hello", "0 unlink a/x: 0\n 0 unlink a/b: 0\n 0 rmdir a: 0", "a-", ""},
		{"a- | a/ a/b=hello", "0 mkdir a: 0\n 0 list a: 0\n 0 link a/b c: 0", "a/! a/b>c", "a/ a/b>c"},
	} {
		plays(t, readUnion(x.u), readScript(x.lines), end{x.upper, x.tree, 0})
	}
}

// Without room in the upper layer nothing is removed or moved, and open files stay where they are.
func TestNamesWithoutRoom(t *testing.T) {
	whites := many(api.White, api.MaxEntries-1)
	plays(t, api.Union{Upper: whites, Lowers: []api.Tree{readTree("a=hello b/ c=see")}}, readScript(`
		0 open a rw: 0
		0 open c rw: 1
		0 rename a d: ErrMany
		0 rename b d: ErrMany
		0 rename a c: ErrMany
		0 mkdir b/x: ErrMany
		0 stat a: 1 hello
		0 stat c: 1 see
		0 rmdir b: 0
		0 unlink a: ErrMany
		0 link d x: ErrMany
		0 mkdir d: ErrMany
		0 write 1 S: ErrMany
		0 read 1 9: 3 see
		0 mkdir b: 0
		0 read 0 9: 5 hello
		0 rmdir b: 0
	`), end{"b- " + tellTree(whites), "a=hello c=see", 2})
}
