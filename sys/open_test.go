package sys

import (
	"math"
	"slices"
	"testing"

	"tracings/api"
)

// Which N a file may be opened with: for Read, or Write, or both; with Append and Empty only beside Write, with Fresh only beside Create.
func TestUses(t *testing.T) {
	right := []int{
		1, 2, 3, // r, w, rw
		6, 7, // with Append
		9, 10, 11, 14, 15, // with Create
		25, 26, 27, 30, 31, // with Fresh
		34, 35, 38, 39, 42, 43, 46, 47, 58, 59, 62, 63, // with Empty
	}
	numbers := []int{math.MinInt, math.MinInt + 3, math.MaxInt, 1 << 20, 1<<20 + 3}
	for n := -70; n <= 200; n++ {
		numbers = append(numbers, n)
	}
	for _, n := range numbers {
		want := "ErrFit"
		if slices.Contains(right, n) {
			want = "0"
		}
		if want == "0" && n&api.Create == 0 {
			want = "ErrNone"
		}
		_, answers, _ := Play(api.Union{}, []api.Call{{Kind: api.CallOpen, Path: "a", N: n}})
		if got := tell(answers[0]); got != want {
			t.Errorf("%s comes of what is not there, opened for %d, not %s", got, n, want)
		}
	}
}

func TestOpen(t *testing.T) {
	answered(t, "a/ a/b=hello c=see d>a e", `
		What is there: a number, and nothing changes.
		0 open a/b r: 0
		0 open d/b w: 1
		0 open c rw: 2
		0 open c wa: 3
		1 open e rwe: 0
		1 open e wae: 1
		1 open c rwc: 2
		1 open c rwac: 3
		0 stat c: 1 see
		0 stat a/b: 1 hello

		Create.
		2 open n rc: 0
		2 open n rc: 1
		2 stat n: 1
		2 open a/n wc: 2
		2 open d/m rwac: 3
		2 open o rcf: 4
		2 open a/o wcfe: 5
		2 write 5 o: 1
		2 open a/o rcf: ErrName
		2 stat a/o: 1 o

		Empty.
		3 open c wce: 0
		3 stat c: 1
		3 open a/b rwe: 1
		3 stat a/b: 1
		3 open p rwce: 2
	`, "a/ a/b a/m a/n a/o=o c d>a e n o p", 9)
}

// A Link to nothing is made something by CallOpen, where it leads, not with Fresh.
func TestOpenByLink(t *testing.T) {
	answered(t, "a/ a/x>../y c>a/x f>no/x g>/h i>. s>s", `
		0 open c r: ErrNone
		0 open c rwcf: ErrName
		0 open c rwc: 0
		0 write 0 new: 3
		0 stat y: 1 new
		0 open a/x r: 1
		0 read 1 9: 3 new
		0 open f rwc: ErrNone
		0 open f rwcf: ErrName
		0 open g/x rwc: ErrNone
		0 open g rwc: 2
		0 stat h: 1
		0 open i rwc: ErrDir
		0 open i/c rwce: 3
		0 stat y: 1
		0 open s rwc: ErrLoop
		0 open s rwcf: ErrName
		0 open s/x rwcf: ErrLoop
	`, "a/ a/x>../y c>a/x f>no/x g>/h h i>. s>s y", 2)
}

func TestOpenRefuses(t *testing.T) {
	answered(t, "a/ a/b=hello c=see d>a s>s", `
		What for comes first, even if no number is free.
		0 open A 0: ErrFit
		0 open "" a: ErrFit
		0 open s ra: ErrFit
		0 open no rf: ErrFit
		0 open a re: ErrFit
		0 open c 64: ErrFit
		0 open c 65: ErrFit
		0 open c -1: ErrFit

		The way.
		0 open "" r: ErrNone
		0 open A r: ErrName
		0 open a/A rwc: ErrName
		0 open no/x rwc: ErrNone
		0 open c/x rwc: ErrNotDir
		0 open s rwc: ErrLoop
		0 open /*81 r: ErrMuch

		What is there, or is not.
		0 open no r: ErrNone
		0 open a/no we: ErrNone
		0 open a r: ErrDir
		0 open a rwc: ErrDir
		0 open a rwce: ErrDir
		0 open d w: ErrDir
		0 open / r: ErrDir
		0 open .. rwe: ErrDir
		0 open a rwcf: ErrName
		0 open / rwcf: ErrName
		0 open c rwcf: ErrName
		0 open c rwcfe: ErrName
		0 open d rwcf: ErrName
		0 stat c: 1 see

		All numbers are taken: that comes ahead of the way.
		0 open c r: 0
		0 open c r: 1
		0 open c r: 2
		0 open c r: 3
		0 open c r: 4
		0 open c r: 5
		0 open c r: 6
		0 open c r: 7
		0 open c r: ErrMany
		0 open c rwe: ErrMany
		0 open A r: ErrMany
		0 open "" r: ErrMany
		0 open n rwc: ErrMany
		0 open a r: ErrMany
		0 open c 0: ErrFit
		0 dup 3: ErrMany
		0 dup 8: ErrNone
		0 stat n: ErrNone
		0 stat c: 1 see
		1 open c r: 0
	`, "a/ a/b=hello c=see d>a s>s", 1)
}

// The lowest free number is taken, and each process has its own.
func TestLowestNumber(t *testing.T) {
	answered(t, "c=see", `
		0 open c r: 0
		0 open c r: 1
		0 dup 0: 2
		0 dup 1: 3
		1 open c r: 0
		1 dup 0: 1
		0 close 1: 0
		0 close 2: 0
		0 dup 3: 1
		0 open c r: 2
		0 open c r: 4
		0 close 0: 0
		0 open c r: 0
		1 open c r: 2
		0 dup 1: 5
		0 dup 1: 6
		0 dup 1: 7
		0 dup 1: ErrMany
		0 close 7: 0
		0 dup 0: 7
		0 open c r: ErrMany
		0 close 8: ErrNone
		1 close 3: ErrNone
		2 close 0: ErrNone
		0 close -1: ErrNone
	`, "c=see", 1)
}

// A refused CallOpen takes no number; a File that nobody has room for is not put.
func TestOpenWithoutRoom(t *testing.T) {
	full := many(api.File, api.MaxEntries)
	plays(t, api.Union{Upper: full}, readScript(`
		0 open n rwc: ErrMany
		0 open n rwcf: ErrMany
		0 open k000 rwc: 0
		0 write 0 x: 1
		0 open k000 rwce: 1
		0 mkdir n: ErrMany
		0 link n x: ErrMany
		0 unlink k079: 0
		0 open n rwc: 2
		0 open m rwc: ErrMany
	`), end{tellTree(append(full[:79:79], readEntry("n"))), tellTree(append(full[:79:79], readEntry("n"))), 2})
	whites := many(api.White, api.MaxEntries)
	plays(t, api.Union{Upper: whites, Lowers: []api.Tree{readTree("a=hello")}}, readScript(`
		0 open n rwc: ErrMany
		0 open a rwe: ErrMany
		0 open a rw: 0
		0 read 0 9: 5 hello
		1 open k000 rwcf: 0
		1 write 0 x: 1
	`), end{"k000=x " + tellTree(whites[1:]), "a=hello k000=x", 2})
}

// Numbers, openings, files: one file for each path, one place for each opening.
func TestPlaces(t *testing.T) {
	answered(t, "a=hello b>a", `
		0 open a rw: 0
		0 open b r: 1
		1 open a r: 0
		0 dup 0: 2

		Two numbers of one opening have one place.
		0 read 0 2: 2 he
		0 read 2 1: 1 l
		0 seek 2 4: 0
		0 read 0 9: 1 o
		0 read 2 9: 0

		Two openings of one file have two, and one text.
		0 read 1 1: 1 h
		1 read 0 9: 5 hello
		0 seek 0 0: 0
		0 write 2 HELP: 4
		0 read 1 9: 4 ELPo
		0 read 0 9: 1 o
		1 seek 0 0: 0
		1 read 0 9: 5 HELPo

		An opening is there as long as one of its numbers leads to it.
		0 close 0: 0
		0 seek 2 3: 0
		0 read 0 1: ErrNone
		0 read 2 1: 1 P
		0 open a r: 0
		0 read 0 9: 5 HELPo
		0 read 2 9: 1 o

		Empty is seen by all.
		1 open a we: 1
		0 seek 2 0: 0
		0 read 2 9: 0
		1 write 1 new: 3
		0 read 2 9: 3 new
		1 open a w: 2
		1 write 2 NEW: 3
		0 read 2 9: 0
		0 read 1 9: 0
	`, "a=NEW b>a", 1)
}
