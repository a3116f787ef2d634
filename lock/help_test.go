package lock

import (
	"fmt"
	"math"
	"slices"
	"strings"
	"testing"

	"tracings/api"
)

// read reads locks with blanks between: `1:5-8` is owner 1's, from 5 on, below 8; with `!` behind it, Alone.
func read(s string) []api.Lock {
	var l []api.Lock
	for _, w := range strings.Fields(s) {
		l = append(l, readOne(w))
	}
	return l
}

func readOne(w string) api.Lock {
	var x api.Lock
	bare, alone := strings.CutSuffix(w, "!")
	if _, err := fmt.Sscanf(bare, "%d:%d-%d", &x.Owner, &x.From, &x.To); err != nil {
		panic(w + ": " + err.Error())
	}
	x.Alone = alone
	return x
}

// many is n locks of two bytes, with a byte between, each at its number.
func many(owner, n int) []api.Lock {
	var l []api.Lock
	for i := range n {
		l = append(l, one(owner, i))
	}
	return l
}

func one(owner, i int) api.Lock {
	return api.Lock{Owner: owner, From: 3 * i, To: 3*i + 2}
}

func joinedLists(l ...[]api.Lock) []api.Lock {
	return slices.Concat(l...)
}

// call is Take or Free.
type call struct {
	name string
	make func([]api.Lock, api.Lock) ([]api.Lock, api.Errno)
}

func take() call { return call{"Take", Take} }

func free() call { return call{"Free", Free} }

// becomes makes the call, and holds the answer against want; l must stay.
func becomes(t *testing.T, c call, l []api.Lock, x api.Lock, want []api.Lock) {
	t.Helper()
	before := slices.Clone(l)
	got, err := c.make(l, x)
	if err != api.OK || !slices.Equal(got, want) {
		t.Errorf("%s(%v, %v) is %v, %d, not %v", c.name, before, x, got, err, want)
	}
	if !slices.Equal(l, before) {
		t.Errorf("%s(%v, %v) made %v of what was given", c.name, before, x, l)
	}
}

// refuses makes the call, and holds the answer against that errno, and nothing beside it; l must stay.
func refuses(t *testing.T, c call, l []api.Lock, x api.Lock, want api.Errno) {
	t.Helper()
	before := slices.Clone(l)
	got, err := c.make(l, x)
	if err != want || len(got) != 0 {
		t.Errorf("%s(%v, %v) is %v, %d, not %d", c.name, before, x, got, err, want)
	}
	if !slices.Equal(l, before) {
		t.Errorf("%s(%v, %v) made %v of what was given", c.name, before, x, l)
	}
}

type wrong struct {
	l    []api.Lock
	want api.Fault
}

// wrongLists are locks with what is wrong with them: each kind of refusal, and of several the first one.
func wrongLists() []wrong {
	var out []wrong
	add := func(l []api.Lock, err api.Errno, at int) {
		out = append(out, wrong{l, api.Fault{Err: err, At: at}})
	}
	add(many(0, api.MaxLocks+1), api.ErrMany, 0)
	add(joinedLists(read("9:5-5"), many(0, api.MaxLocks)), api.ErrMany, 0)
	add(make([]api.Lock, 1<<16), api.ErrMany, 0)
	add(joinedLists(read("9:5-5"), many(0, api.MaxLocks-1)), api.ErrRange, 0)
	for _, x := range outOfRange() {
		add([]api.Lock{x}, api.ErrRange, 0)
		add([]api.Lock{readOne("0:5-8"), readOne("0:8-9!"), x, x}, api.ErrRange, 2)
		add([]api.Lock{readOne("3:0-1000!"), x}, api.ErrRange, 1)
	}
	for _, x := range []struct {
		l   string
		err api.Errno
		at  int
	}{
		// A greater owner ahead.
		{"1:5-8 0:5-8", api.ErrForm, 1},
		{"0:0-1 3:5-8 2:20-30", api.ErrForm, 2},
		{"0:1-2 1:1-2 0:5-6", api.ErrForm, 2},
		// The same owner's: behind From, at From.
		{"0:5-10 0:9-12", api.ErrForm, 1},
		{"0:5-10 0:9-12!", api.ErrForm, 1},
		{"0:5-10! 0:9-12", api.ErrForm, 1},
		{"0:5-10 0:5-10", api.ErrForm, 1},
		{"0:5-10 0:6-7!", api.ErrForm, 1},
		{"0:5-10 0:2-3", api.ErrForm, 1},
		{"0:5-10 0:10-12", api.ErrForm, 1},
		{"0:5-10! 0:10-12!", api.ErrForm, 1},
		{"0:0-1 0:1-2! 0:2-3!", api.ErrForm, 2},
		// One of another owner, right ahead or far ahead.
		{"0:5-10! 1:9-12", api.ErrFit, 1},
		{"0:5-10 1:9-12!", api.ErrFit, 1},
		{"0:5-10! 1:9-12!", api.ErrFit, 1},
		{"0:5-10! 1:0-1000", api.ErrFit, 1},
		{"0:0-1! 0:5-6 1:0-3", api.ErrFit, 2},
		{"0:5-10 1:5-10 2:9-10!", api.ErrFit, 2},
		{"0:999-1000! 1:0-5 2:0-5 3:999-1000", api.ErrFit, 3},
		// Of several the first one: lock by lock, and then as the chapter names them.
		{"0:5-10! 1:9-12 1:3-4 4:0-1", api.ErrFit, 1},
		{"1:5-10! 0:9-12", api.ErrForm, 1},
		{"1:5-10! 0:9-9", api.ErrRange, 1},
		{"0:5-10! 1:20-30! 1:8-9", api.ErrForm, 2},
		{"1:5-10 0:5-10 0:0-0", api.ErrForm, 1},
	} {
		add(read(x.l), x.err, x.at)
	}
	return out
}

// outOfRange are locks that are wrong by themselves, at the edges and far behind them.
func outOfRange() []api.Lock {
	l := read("-1:0-1 4:0-1! 0:-1-1 0:1-1! 0:0-0 0:2-1 0:8-5! 0:999-1001 0:1000-1000 0:1000-1001! 2:1001-1002")
	for _, n := range []int{math.MinInt, math.MaxInt} {
		l = append(l, api.Lock{Owner: n, To: 1}, api.Lock{From: n, To: 5}, api.Lock{From: 5, To: n}, api.Lock{Owner: n, From: n, To: n, Alone: true})
	}
	return append(l, api.Lock{From: math.MinInt, To: math.MaxInt}, api.Lock{From: math.MaxInt, To: math.MinInt})
}

// rightLists are locks in which there is nothing wrong, at the edges too.
func rightLists() [][]api.Lock {
	return [][]api.Lock{
		nil,
		{},
		read("0:0-1"),
		read("3:999-1000!"),
		read("0:0-1000!"),
		read("0:0-1000 1:0-1000 2:0-1000 3:0-1000"),
		read("0:5-10 0:10-12! 0:12-13 0:14-15"),
		read("0:5-10 0:11-12"),
		read("0:5-10! 1:10-12! 2:0-5! 3:12-13"),
		read("0:0-5 0:5-9! 1:10-20 2:12-30"),
		many(0, api.MaxLocks),
		joinedLists(many(0, 10), many(1, 10), many(2, 10), many(3, api.MaxLocks-30)),
	}
}
