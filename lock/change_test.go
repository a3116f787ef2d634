package lock

import (
	"slices"
	"testing"

	"tracings/api"
)

func TestTake(t *testing.T) {
	for _, x := range []struct{ l, x, want string }{
		{"", "0:0-1", "0:0-1"},
		{"", "3:0-1000!", "3:0-1000!"},
		{"", "2:999-1000", "2:999-1000"},
		// Ahead, behind, and between.
		{"0:5-8", "0:0-4", "0:0-4 0:5-8"},
		{"0:5-8", "0:9-10", "0:5-8 0:9-10"},
		{"0:0-2 0:6-8", "0:3-5!", "0:0-2 0:3-5! 0:6-8"},
		{"1:5-8", "0:7-9", "0:7-9 1:5-8"},
		{"1:5-8", "2:0-1", "1:5-8 2:0-1"},
		{"0:5-8 3:5-8", "1:0-9", "0:5-8 1:0-9 3:5-8"},
		// They touch: together, if both are alike.
		{"0:5-8", "0:8-9", "0:5-9"},
		{"0:5-8!", "0:8-9!", "0:5-9!"},
		{"0:5-8", "0:0-5", "0:0-8"},
		{"0:5-8", "0:8-9!", "0:5-8 0:8-9!"},
		{"0:5-8!", "0:0-5", "0:0-5 0:5-8!"},
		{"0:0-2 0:4-6", "0:2-4", "0:0-6"},
		{"0:0-2! 0:4-6", "0:2-4", "0:0-2! 0:2-6"},
		{"0:0-2 0:4-6!", "0:2-4", "0:0-4 0:4-6!"},
		{"0:0-2 0:2-4! 0:4-6", "0:2-4", "0:0-6"},
		{"0:0-2 0:2-4! 0:4-6", "0:3-4", "0:0-2 0:2-3! 0:3-6"},
		{"0:5-8", "1:8-9", "0:5-8 1:8-9"},
		{"0:5-8!", "1:8-9!", "0:5-8! 1:8-9!"},
		// They have bytes in common.
		{"0:5-8", "0:7-9", "0:5-9"},
		{"0:5-8", "0:7-9!", "0:5-7 0:7-9!"},
		{"0:5-8!", "0:3-6", "0:3-6 0:6-8!"},
		{"0:5-8", "0:5-8!", "0:5-8!"},
		{"0:5-8!", "0:5-8", "0:5-8"},
		{"0:5-8!", "0:5-6", "0:5-6 0:6-8!"},
		{"0:5-8!", "0:7-8", "0:5-7! 0:7-8"},
		{"0:5-8", "0:6-7", "0:5-8"},
		{"0:5-8", "0:6-7!", "0:5-6 0:6-7! 0:7-8"},
		{"0:5-8!", "0:6-7", "0:5-6! 0:6-7 0:7-8!"},
		{"0:1-2 0:3-4! 0:5-6", "0:0-7!", "0:0-7!"},
		{"0:1-3 0:4-5! 0:6-8", "0:2-7", "0:1-8"},
		{"0:1-3 0:4-5! 0:6-8", "0:2-7!", "0:1-2 0:2-7! 0:7-8"},
		// What others have stays.
		{"0:5-8 1:5-8", "1:0-1000", "0:5-8 1:0-1000"},
		{"0:5-8 1:0-5! 1:8-9! 2:5-8", "0:6-7", "0:5-8 1:0-5! 1:8-9! 2:5-8"},
		{"0:0-5! 1:5-8 1:8-9! 2:5-8", "1:9-12", "0:0-5! 1:5-8 1:8-9! 1:9-12 2:5-8"},
		{"0:0-5 1:0-5 2:7-8!", "0:5-7", "0:0-7 1:0-5 2:7-8!"},
	} {
		becomes(t, take(), read(x.l), readOne(x.x), read(x.want))
	}
}

func TestTakeOfWhatIsHeld(t *testing.T) {
	for _, x := range []struct{ l, x string }{
		{"0:5-9!", "1:8-9"},
		{"0:5-9!", "1:8-9!"},
		{"0:5-9", "1:8-9!"},
		{"0:5-9", "1:0-1000!"},
		{"1:5-9!", "0:0-6"},
		{"0:5-9! 1:9-12", "1:8-9"},
		{"0:5-9 1:5-9", "1:6-7!"},
		{"0:0-1 1:0-1 2:0-1 3:1-1000!", "0:0-1000"},
		{"0:999-1000!", "3:999-1000"},
	} {
		refuses(t, take(), read(x.l), readOne(x.x), api.ErrHeld)
	}
}

func TestFree(t *testing.T) {
	for _, x := range []struct{ l, x, want string }{
		{"", "0:0-1000", ""},
		{"0:5-8", "0:0-5", "0:5-8"},
		{"0:5-8", "0:8-9", "0:5-8"},
		{"0:5-8", "0:5-8", ""},
		{"0:5-8", "0:0-1000", ""},
		{"0:5-8", "0:0-6", "0:6-8"},
		{"0:5-8", "0:7-9", "0:5-7"},
		{"0:5-8!", "0:5-6", "0:6-8!"},
		{"0:5-8!", "0:7-8", "0:5-7!"},
		{"0:5-8", "0:6-7", "0:5-6 0:7-8"},
		{"0:5-8!", "0:6-7", "0:5-6! 0:7-8!"},
		{"0:0-1000!", "0:0-1", "0:1-1000!"},
		{"0:0-1000!", "0:999-1000", "0:0-999!"},
		{"0:0-2 0:2-4! 0:4-6", "0:2-4", "0:0-2 0:4-6"},
		{"0:0-2 0:2-4! 0:4-6", "0:1-5", "0:0-1 0:5-6"},
		{"0:0-2 0:3-4! 0:5-6", "0:1-1000", "0:0-1"},
		// Alone or not is the same to it.
		{"0:5-8", "0:6-7!", "0:5-6 0:7-8"},
		{"0:5-8!", "0:6-7!", "0:5-6! 0:7-8!"},
		// What others have stays, and nobody's leave is asked.
		{"0:5-8!", "1:5-8!", "0:5-8!"},
		{"0:5-8", "1:0-1000!", "0:5-8"},
		{"0:5-8 1:5-8 2:5-8", "1:6-7!", "0:5-8 1:5-6 1:7-8 2:5-8"},
		{"0:5-8! 1:8-9! 2:0-5!", "1:0-1000", "0:5-8! 2:0-5!"},
	} {
		becomes(t, free(), read(x.l), readOne(x.x), read(x.want))
	}
}

// What is wrong with the locks is told ahead of what is wrong with x, and both ahead of all else.
func TestChangesOfWrongs(t *testing.T) {
	xs := append(read("0:5-8 1:5-8! 3:0-1000!"), outOfRange()...)
	for _, c := range []call{take(), free()} {
		for _, w := range wrongLists() {
			for _, x := range xs {
				refuses(t, c, w.l, x, w.want.Err)
			}
		}
		for _, x := range outOfRange() {
			for _, l := range rightLists() {
				refuses(t, c, l, x, api.ErrRange)
			}
		}
	}
}

func TestTakeCounts(t *testing.T) {
	const most = api.MaxLocks
	full, wide := many(1, most), read("1:500-510")
	becomes(t, take(), full[:most-1], readOne("1:900-901"), joinedLists(full[:most-1], read("1:900-901")))
	becomes(t, take(), full[:most-1], readOne("0:0-1"), joinedLists(read("0:0-1"), full[:most-1]))
	refuses(t, take(), full, readOne("1:900-901"), api.ErrMany)
	refuses(t, take(), full, readOne("0:0-1"), api.ErrMany)
	refuses(t, take(), full, readOne("0:0-1!"), api.ErrHeld)

	// A lock that is parted in its middle is two more, at its end one more.
	becomes(t, take(), joinedLists(full[:most-3], wide), readOne("1:502-503!"), joinedLists(full[:most-3], read("1:500-502 1:502-503! 1:503-510")))
	refuses(t, take(), joinedLists(full[:most-2], wide), readOne("1:502-503!"), api.ErrMany)
	becomes(t, take(), joinedLists(full[:most-2], wide), readOne("1:500-503!"), joinedLists(full[:most-2], read("1:500-503! 1:503-510")))
	refuses(t, take(), joinedLists(full[:most-1], wide), readOne("1:500-503!"), api.ErrMany)

	// Only what there is in the end is counted.
	becomes(t, take(), joinedLists(full[:most-1], wide), readOne("1:503-504"), joinedLists(full[:most-1], wide))
	becomes(t, take(), joinedLists(full[:most-1], wide), readOne("1:500-510!"), joinedLists(full[:most-1], read("1:500-510!")))
	becomes(t, take(), full, readOne("1:2-3"), joinedLists(read("1:0-5"), full[2:]))
	becomes(t, take(), full, readOne("1:0-1000!"), read("1:0-1000!"))
}

func TestFreeCounts(t *testing.T) {
	const most = api.MaxLocks
	full, wide := many(1, most), read("1:500-510!")
	becomes(t, free(), joinedLists(full[:most-2], wide), readOne("1:502-503"), joinedLists(full[:most-2], read("1:500-502! 1:503-510!")))
	refuses(t, free(), joinedLists(full[:most-1], wide), readOne("1:502-503"), api.ErrMany)
	becomes(t, free(), joinedLists(full[:most-1], wide), readOne("1:500-503"), joinedLists(full[:most-1], read("1:503-510!")))
	becomes(t, free(), full, readOne("0:0-1000!"), full)
	becomes(t, free(), full, readOne("1:0-1000"), nil)
}

// Z2: neither the list that is handed in nor its spare room is changed, and no answer shares memory with it.
func TestArgumentsStay(t *testing.T) {
	leave := call{"Leave", func(l []api.Lock, x api.Lock) ([]api.Lock, api.Errno) { return Leave(l, x.Owner), api.OK }}
	const spare = " 2:50-60 2:70-80!"
	for _, s := range []string{"", "0:5-8", "0:5-8 0:8-9! 1:0-3", "1:0-3! 1:5-8! 2:20-30", "0:5-8 1:5-8 2:5-8 3:5-8"} {
		for _, x := range read("0:4-5 0:6-7 1:3-5 1:6-7 2:8-9 3:40-50 3:8-9") {
			for _, c := range []call{take(), free(), leave} {
				l := read(s + spare)
				got, err := c.make(l[:len(l)-2], x)
				if err != api.OK && err != api.ErrHeld {
					t.Errorf("%s(%s, %v) is %d", c.name, s, x, err)
				}
				clear(got[:cap(got)])
				if !slices.Equal(l, read(s+spare)) {
					t.Errorf("%s(%s, %v): what was handed in is %v", c.name, s, x, l)
				}
			}
		}
	}
}
