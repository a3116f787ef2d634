package lock

import (
	"math"
	"slices"
	"testing"

	"tracings/api"
)

func TestWrongOfRightLists(t *testing.T) {
	for _, l := range rightLists() {
		if got := Wrong(l); got != (api.Fault{}) {
			t.Errorf("Wrong(%v) is %v", l, got)
		}
	}
}

func TestWrong(t *testing.T) {
	for _, x := range wrongLists() {
		before := slices.Clone(x.l)
		if got := Wrong(x.l); got != x.want {
			t.Errorf("Wrong(%v) is %v, not %v", x.l, got, x.want)
		}
		if !slices.Equal(x.l, before) {
			t.Errorf("Wrong made %v of %v", x.l, before)
		}
	}
}

func TestMeets(t *testing.T) {
	for _, x := range []struct{ l, x, want string }{
		{"", "0:0-1000!", ""},
		// The owner's own never clash.
		{"0:5-10!", "0:5-10!", ""},
		{"0:5-10!", "0:0-1000", ""},
		// One of them must be Alone.
		{"0:5-10", "1:5-10", ""},
		{"0:5-10", "1:5-10!", "0:5-10"},
		{"0:5-10!", "1:5-10", "0:5-10!"},
		{"0:5-10!", "1:5-10!", "0:5-10!"},
		{"1:5-10!", "0:5-10", "1:5-10!"},
		// They touch, or have a byte in common.
		{"0:5-8!", "1:8-9", ""},
		{"0:5-8!", "1:7-8", "0:5-8!"},
		{"0:5-8!", "1:0-5!", ""},
		{"0:5-8!", "1:0-6!", "0:5-8!"},
		{"0:5-8!", "1:5-6", "0:5-8!"},
		{"0:5-8!", "1:6-7", "0:5-8!"},
		{"0:5-8!", "1:0-1000", "0:5-8!"},
		{"0:0-1!", "3:0-1", "0:0-1!"},
		{"0:999-1000!", "3:999-1000", "0:999-1000!"},
		// The first one of them.
		{"0:5-8 1:5-8 2:5-8", "3:7-9!", "0:5-8"},
		{"0:5-8 1:5-8 2:5-8", "0:7-9!", "1:5-8"},
		{"0:0-3! 0:3-6 1:3-8 2:8-9!", "3:4-9", "2:8-9!"},
		{"0:0-3! 1:3-6! 2:6-9!", "3:5-7", "1:3-6!"},
	} {
		l := read(x.l)
		meets(t, l, readOne(x.x), read(x.want))
		if !slices.Equal(l, read(x.l)) {
			t.Errorf("Meets made %v of %q", l, x.l)
		}
	}
}

// meets holds what Meets answers against the one of want, or against nothing.
func meets(t *testing.T, l []api.Lock, x api.Lock, want []api.Lock) {
	t.Helper()
	var y api.Lock
	if len(want) > 0 {
		y = want[0]
	}
	if got, ok := Meets(l, x); got != y || ok != (len(want) > 0) {
		t.Errorf("Meets(%v, %v) is %v, %t, not %v", l, x, got, ok, want)
	}
}

// Meets asks nothing of what it is given: neither order, nor owners, nor numbers.
func TestMeetsOfWrongInputs(t *testing.T) {
	for _, x := range []struct{ l, x, want string }{
		{"3:5-8! 0:5-8!", "1:5-8", "3:5-8!"},
		{"0:5-8! 0:5-8", "1:5-8!", "0:5-8!"},
		{"9:5-8!", "-9:7-8", "9:5-8!"},
		{"9:5-8!", "9:7-8", ""},
		{"0:-5-0!", "1:-1-0", "0:-5-0!"},
		{"0:5000-6000!", "1:5999-7000", "0:5000-6000!"},
		// Of locks without bytes the ends alone count.
		{"1:10-20", "0:12-12!", "1:10-20"},
		{"1:10-20", "0:10-10!", ""},
		{"1:10-20", "0:20-20!", ""},
		{"1:5-5", "0:4-6!", "1:5-5"},
		{"1:5-5", "0:5-5!", ""},
	} {
		meets(t, read(x.l), readOne(x.x), read(x.want))
	}
	whole := api.Lock{Owner: math.MinInt, From: math.MinInt, To: math.MaxInt, Alone: true}
	other := api.Lock{Owner: math.MaxInt, From: math.MinInt, To: math.MinInt + 1}
	meets(t, []api.Lock{whole}, other, []api.Lock{whole})
	meets(t, []api.Lock{other}, whole, []api.Lock{other})
	meets(t, many(0, 1<<16), whole, many(0, 1))
	for _, x := range outOfRange() {
		for _, y := range outOfRange() {
			Meets([]api.Lock{x}, y)
		}
	}
}

func TestLeave(t *testing.T) {
	for _, x := range []struct {
		l     string
		owner int
		want  string
	}{
		{"", 0, ""},
		{"0:5-8", 0, ""},
		{"0:5-8", 1, "0:5-8"},
		{"0:5-8 0:8-9! 1:0-3", 0, "1:0-3"},
		{"0:5-8 0:8-9! 1:0-3", 1, "0:5-8 0:8-9!"},
		{"0:5-8 1:0-3 1:3-4! 3:7-8", 1, "0:5-8 3:7-8"},
		{"0:5-8 1:0-3 2:7-8 3:7-8", 3, "0:5-8 1:0-3 2:7-8"},
		{"0:5-8 1:0-3 2:7-8 3:7-8", 4, "0:5-8 1:0-3 2:7-8 3:7-8"},
		{"0:5-8 1:0-3 2:7-8 3:7-8", -1, "0:5-8 1:0-3 2:7-8 3:7-8"},
		// Nothing is asked of the locks, and they come in the order in which they were.
		{"9:5-5 0:8-9 9:1-0! 0:8-9 -1:0-2", 9, "0:8-9 0:8-9 -1:0-2"},
		{"9:5-5 0:8-9 9:1-0! 0:8-9 -1:0-2", 0, "9:5-5 9:1-0! -1:0-2"},
		{"9:5-5 0:8-9 9:1-0! 0:8-9 -1:0-2", -1, "9:5-5 0:8-9 9:1-0! 0:8-9"},
	} {
		l := read(x.l)
		if got := Leave(l, x.owner); !slices.Equal(got, read(x.want)) {
			t.Errorf("Leave(%v, %d) is %v, not %s", l, x.owner, got, x.want)
		}
		if !slices.Equal(l, read(x.l)) {
			t.Errorf("Leave(%q, %d) made %v of what was given", x.l, x.owner, l)
		}
	}
	for _, n := range []int{api.MaxLocks, api.MaxLocks + 1, 1 << 16} {
		if got := Leave(many(1, n), 0); len(got) != n {
			t.Errorf("Leave without anything to leave has %d of %d", len(got), n)
		}
		if got := Leave(many(1, n), 1); len(got) != 0 {
			t.Errorf("Leave of all has %d of %d", len(got), n)
		}
	}
}
