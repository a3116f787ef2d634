package sys

import (
	"math"
	"testing"

	"tracings/api"
)

// Each call with Fd is refused first, if that number leads to nothing, whatever else is wrong.
func TestNumbersThatLeadToNothing(t *testing.T) {
	kinds := []int{api.CallClose, api.CallRead, api.CallWrite, api.CallSeek, api.CallDup, api.CallLock, api.CallFree, api.CallCut}
	for _, kind := range kinds {
		for _, fd := range []int{1, 2, 7, 8, 9, -1, math.MinInt, math.MaxInt} {
			for _, n := range []int{0, -1, 1001} {
				calls := readScript("0 open a r: 0\n 0 dup 0: 1\n 0 close 1: 0\n 1 open a r: 0\n 1 dup 0: 1").calls
				calls = append(calls, api.Call{Kind: kind, Fd: fd, N: n, Path: "a", Text: "x"})
				shown, answers, err := Play(readUnion("a=x"), calls)
				if err != api.OK || tell(answers[5]) != "ErrNone" || tellTree(shown.Tree) != "a=x" || shown.Open != 1 {
					t.Errorf("%v, %v comes of kind %d with number %d", shown, answers, kind, fd)
				}
			}
		}
	}
}

func TestClose(t *testing.T) {
	answered(t, "a=hello b=see", `
		0 open a r: 0
		0 close 0: 0
		0 close 0: ErrNone
		0 open a r: 0
		0 dup 0: 1
		0 close 0: 0
		0 read 1 9: 5 hello
		0 close 1: 0
		1 open a r: 0
		1 open b r: 1
		2 open b r: 0
		1 close 1: 0
		1 read 1 9: ErrNone
		2 read 0 9: 3 see
	`, "a=hello b=see", 2)
}

func TestSeek(t *testing.T) {
	answered(t, "a=hello", `
		0 open a r: 0
		0 seek 0 1: 0
		0 read 0 1: 1 e
		0 seek 0 1000: 0
		0 read 0 9: 0
		0 seek 0 1001: ErrRange
		0 seek 0 -1: ErrRange
		0 seek 0 0: 0
		0 read 0 9: 5 hello
		0 seek 0 2: 0
		0 seek 0 1001: ErrRange
		0 read 0 9: 3 llo
		0 open a w: 1
		0 seek 1 3: 0
		0 write 1 L: 1
		0 seek 0 0: 0
		0 read 0 9: 5 helLo
	`, "a=helLo", 1)
}

func TestRead(t *testing.T) {
	answered(t, "a=hello b c=x*100", `
		0 open a r: 0
		0 read 0 0: 0
		0 read 0 3: 3 hel
		0 read 0 0: 0
		0 read 0 1: 1 l
		0 read 0 1000: 1 o
		0 read 0 1: 0
		0 read 0 1: 0

		A place behind the end stays.
		0 open a rw: 1
		0 seek 1 7: 0
		0 read 1 5: 0
		0 write 1 x: 1
		0 read 1 5: 0
		0 seek 1 0: 0
		0 read 1 99: 8 hello\0\0x

		0 open b r: 2
		0 read 2 9: 0
		0 open c r: 3
		0 read 3 99: 99 x*99
		0 read 3 99: 1 x
		0 seek 3 0: 0
		0 read 3 1000: 100 x*100

		Refused: what for comes first.
		0 read 0 -1: ErrRange
		0 read 0 1001: ErrRange
		0 open a w: 4
		0 read 4 1: ErrFit
		0 read 4 -1: ErrFit
		0 read 4 1001: ErrFit
		0 seek 0 3: 0
		0 read 0 1001: ErrRange
		0 read 0 9: 5 lo\0\0x
	`, `a=hello\0\0x b c=x*100`, 3)
}

func TestWrite(t *testing.T) {
	answered(t, "a=hello b c=see", `
		In the place of what stood there; behind it what stood there stays.
		0 open a rw: 0
		0 write 0 HE: 2
		0 read 0 1: 1 l
		0 write 0 L: 1
		0 stat a: 1 HElLo
		0 write 0 O!: 2
		0 stat a: 1 HElLO!
		0 write 0 !: 1
		0 stat a: 1 HElLO!!

		Behind the end.
		0 open b w: 1
		0 seek 1 3: 0
		0 write 1 x: 1
		0 stat b: 1 \0\0\0x
		0 write 1 y: 1
		0 stat b: 1 \0\0\0xy

		No text to write: nothing is filled up.
		0 seek 1 9: 0
		0 write 1 "": 0
		0 stat b: 1 \0\0\0xy
		0 seek 1 1000: 0
		0 write 1 "": 0
		0 stat b: 1 \0\0\0xy

		MaxText.
		0 write 1 z: ErrMuch
		0 seek 1 100: 0
		0 write 1 "": 0
		0 write 1 z: ErrMuch
		0 seek 1 99: 0
		0 write 1 zz: ErrMuch
		0 stat b: 1 \0\0\0xy
		0 write 1 z: 1
		0 write 1 z: ErrMuch
		0 write 1 "": 0
		0 seek 1 0: 0
		0 write 1 z*101: ErrMuch
		0 write 1 z*100: 100
		0 stat b: 1 z*100

		Without Write.
		0 open c r: 2
		0 write 2 x: ErrFit
		0 write 2 "": ErrFit
		0 write 2 x*101: ErrFit
		0 stat c: 1 see
	`, "a=HElLO!! b=z*100 c=see", 3)
}

func TestAppend(t *testing.T) {
	answered(t, "a=hello b=x*90", `
		The place is the end when something is written, not ahead of it.
		0 open a rwa: 0
		0 read 0 2: 2 he
		0 write 0 !: 1
		0 read 0 9: 0
		0 seek 0 1: 0
		0 write 0 !: 1
		0 stat a: 1 hello!!
		0 seek 0 0: 0
		0 read 0 3: 3 hel

		Somebody else's bytes come first, if they were written first.
		1 open a wa: 0
		1 write 0 1: 1
		0 write 0 0: 1
		1 write 0 1: 1
		0 stat a: 1 hello!!101

		No text to write: the place is the end all the same.
		0 seek 0 2: 0
		0 write 0 "": 0
		0 read 0 9: 0
		0 seek 0 1000: 0
		0 write 0 "": 0
		1 write 0 9: 1
		0 read 0 9: 1 9
		0 stat a: 1 hello!!1019

		What is refused leaves the place where it was.
		2 open b rwa: 0
		2 seek 0 88: 0
		2 write 0 y*11: ErrMuch
		2 read 0 9: 2 xx
		2 seek 0 0: 0
		2 write 0 y*10: 10
		2 write 0 y: ErrMuch
		2 write 0 "": 0
		2 stat b: 1 xxxxxxxxxxxxxxxxxxxxxxxxxxxxxxxxxxxxxxxxxxxxxxxxxxxxxxxxxxxxxxxxxxxxxxxxxxxxxxxxxxxxxxxxxxyyyyyyyyyy
	`, "a=hello!!1019 b=xxxxxxxxxxxxxxxxxxxxxxxxxxxxxxxxxxxxxxxxxxxxxxxxxxxxxxxxxxxxxxxxxxxxxxxxxxxxxxxxxxxxxxxxxxyyyyyyyyyy", 2)
}

func TestCut(t *testing.T) {
	answered(t, "a=hello b", `
		0 open a rw: 0
		0 seek 0 4: 0
		0 cut 0 2: 0
		0 stat a: 1 he

		The place stays, even behind the end.
		0 read 0 9: 0
		0 write 0 x: 1
		0 stat a: 1 he\0\0x
		0 cut 0 7: 0
		0 stat a: 1 he\0\0x\0\0
		0 read 0 9: 2 \0\0
		0 cut 0 7: 0
		0 cut 0 0: 0
		0 stat a: 1
		0 cut 0 0: 0
		0 cut 0 100: 0
		0 stat a: 1 \0*100
		0 cut 0 101: ErrRange
		0 cut 0 -1: ErrRange
		0 stat a: 1 \0*100
		0 cut 0 1: 0
		0 open b r: 1
		0 cut 1 0: ErrFit
		0 cut 1 1: ErrFit
		0 cut 1 -1: ErrFit
		0 cut 1 101: ErrFit
		0 stat b: 1
	`, `a=\0 b`, 2)
}

// A text that stays what it was is not put: what only a lower layer has stays there alone.
func TestSameTextIsNotPut(t *testing.T) {
	u := readUnion("| a/ a/b=hello c")
	for lines, upper := range map[string]string{
		"0 open a/b rw: 0\n 0 write 0 hel: 3\n 0 read 0 9: 2 lo":                 "",
		"0 open a/b wa: 0\n 0 write 0 \"\": 0":                                   "",
		"0 open a/b w: 0\n 0 cut 0 5: 0":                                         "",
		"0 open c rwce: 0\n 0 cut 0 0: 0":                                        "",
		"0 open a/b rwc: 0\n 0 read 0 9: 5 hello":                                "",
		"0 open a/b rw: 0\n 0 write 0 H: 1\n 0 seek 0 0: 0\n 0 write 0 h: 1":     "a/ a/b=hello",
		"0 open a/b w: 0\n 0 cut 0 4: 0\n 0 seek 0 4: 0\n 0 write 0 o: 1":        "a/ a/b=hello",
		"0 open a/b wae: 0\n 0 write 0 hello: 5":                                 "a/ a/b=hello",
		"0 open a/b w: 0\n 0 write 0 h: 1\n 0 write 0 e: 1\n 0 write 0 hello: 5": "a/ a/b=hehello",
	} {
		tree := "a/ a/b=hello c"
		if upper == "a/ a/b=hehello" {
			tree = "a/ a/b=hehello c"
		}
		plays(t, u, readScript(lines), end{upper, tree, 1})
	}
}

// If the upper layer has no room for a file that a lower one has, that is Put's error, and no place moves.
func TestWriteWithoutRoom(t *testing.T) {
	whites := many(api.White, api.MaxEntries)
	plays(t, api.Union{Upper: whites, Lowers: []api.Tree{readTree("a=hello")}}, readScript(`
		0 open a rwa: 0
		0 open a rw: 1
		0 read 0 2: 2 he
		0 write 0 x: ErrMany
		0 read 0 9: 3 llo
		0 read 1 1: 1 h
		0 write 1 x: ErrMany
		0 cut 1 2: ErrMany
		0 cut 1 5: 0
		0 write 1 e: 1
		0 read 1 9: 3 llo
		0 write 1 "": 0
		0 unlink a: ErrMany
		0 rename a b: ErrMany
		0 stat a: 1 hello

		What is White where no lower layer has anything goes with a file that was there.
		0 open k000 rwc: 2
		0 write 0 x: ErrMany
		0 unlink k000: 0
		0 write 0 x: 1
	`), end{"a=hellox " + tellTree(whites[1:]), "a=hellox", 2})
}

func TestLocks(t *testing.T) {
	answered(t, "a=hello b=see l>a", `
		0 open a r: 0
		1 open l w: 0
		2 open b rw: 0

		Of one file, by whichever way it was opened.
		0 alone 0 5 9: 0
		1 lock 0 8 10: ErrHeld
		1 lock 0 9 10: 0
		1 alone 0 0 5: 0
		2 alone 0 0 1000: 0
		0 lock 0 4 5: ErrHeld
		0 lock 0 5 7: 0
		1 lock 0 5 7: 0
		1 lock 0 5 8: ErrHeld
		0 alone 0 5 9: ErrHeld
		1 free 0 5 7: 0
		0 alone 0 5 9: 0
		0 free 0 0 1000: 0
		1 alone 0 0 1000: 0

		Wrong bytes.
		0 lock 0 5 5: ErrRange
		0 lock 0 6 5: ErrRange
		0 lock 0 -1 5: ErrRange
		0 lock 0 999 1001: ErrRange
		0 free 0 5 5: ErrRange
		0 free 0 -1 5: ErrRange
		0 free 0 0 1001: ErrRange
		0 alone 0 1000 1000: ErrRange
		0 alone 0 999 1000: ErrHeld
		1 free 0 999 1000: 0
		0 alone 0 999 1000: 0

		What is not held may be freed.
		2 free 0 3 9: 0
		0 free 0 3 9: 0
		1 alone 0 999 1000: ErrHeld
	`, "a=hello b=see l>a", 2)
}

// The locks of an owner on a file go with any one of its numbers; those of others, and those on other files, stay.
func TestLocksGo(t *testing.T) {
	answered(t, "a b", `
		0 open a r: 0
		0 dup 0: 1
		0 open a w: 2
		0 open b w: 3
		1 open a r: 0
		1 open b r: 1
		1 lock 0 50 60: 0
		0 alone 0 0 10: 0
		0 alone 2 20 30: 0
		0 alone 3 0 10: 0
		1 alone 0 0 1: ErrHeld
		1 alone 0 25 26: ErrHeld
		0 close 1: 0
		1 alone 0 0 1: 0
		1 alone 0 25 26: 0
		1 alone 1 0 1: ErrHeld
		0 alone 0 55 56: ErrHeld
		0 alone 2 25 26: ErrHeld
		0 close 3: 0
		1 alone 1 0 1: 0
		1 close 0: 0
		0 alone 0 0 1000: 0
		0 close 0: 0
		0 close 2: 0

		A file that is opened anew has no locks.
		2 open a r: 0
		2 alone 0 0 1000: 0
	`, "a b", 2)
}

func TestMaxLocks(t *testing.T) {
	var x script
	add := func(line, want string) {
		x.lines, x.calls, x.want = append(x.lines, line), append(x.calls, readCall(line)), append(x.want, want)
	}
	add("0 open a r", "0")
	add("1 open a r", "0")
	for i := range api.MaxLocks {
		c := readCall("0 lock 0 0 1")
		c.N, c.M = 3*i, 3*i+2
		x.lines, x.calls, x.want = append(x.lines, "a lock"), append(x.calls, c), append(x.want, "0")
	}
	add("1 lock 0 500 501", "ErrMany")
	add("0 lock 0 500 501", "ErrMany")
	add("0 free 0 0 2", "0")
	add("1 alone 0 500 501", "0")
	add("0 free 0 6 7", "0")
	add("0 lock 0 0 1", "ErrMany")
	add("0 lock 0 500 501", "ErrHeld")
	plays(t, readUnion("a"), x, end{"a", "a", 1})
}
