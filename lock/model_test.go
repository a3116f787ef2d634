package lock

import (
	"slices"
	"testing"

	"tracings/api"
)

// What an owner has of a byte.
const (
	nothing = iota
	shared
	alone
)

// model is what each owner has of each byte.
type model [][]int

func newModel(owners, bytes int) model {
	m := make(model, owners)
	for o := range m {
		m[o] = make([]int, bytes)
	}
	return m
}

func (m model) clone() model {
	out := newModel(len(m), len(m[0]))
	for o := range m {
		copy(out[o], m[o])
	}
	return out
}

func modelOf(owners, bytes int, l []api.Lock) model {
	m := newModel(owners, bytes)
	for _, x := range l {
		m.set(x, holds(x))
	}
	return m
}

func holds(x api.Lock) int {
	if x.Alone {
		return alone
	}
	return shared
}

func (m model) set(x api.Lock, what int) {
	for i := x.From; i < x.To; i++ {
		m[x.Owner][i] = what
	}
}

// refused tells whether somebody else has a byte of x, and one of both has it alone.
func (m model) refused(x api.Lock) bool {
	for o := range m {
		for i := x.From; i < x.To; i++ {
			if has := m[o][i]; o != x.Owner && has != nothing && (has == alone || x.Alone) {
				return true
			}
		}
	}
	return false
}

// locks goes from byte to byte, and begins a lock wherever what the owner has is another thing than at the one ahead.
func (m model) locks() []api.Lock {
	var l []api.Lock
	for o, row := range m {
		had := nothing
		for i, has := range row {
			if has != nothing && has != had {
				l = append(l, api.Lock{Owner: o, From: i, To: i, Alone: has == alone})
			}
			if has != nothing {
				l[len(l)-1].To++
			}
			had = has
		}
	}
	return l
}

// allModels are all ways in which these owners can have these bytes.
func allModels(owners, bytes int) []model {
	all := []model{newModel(owners, bytes)}
	for o := range owners {
		for i := range bytes {
			for _, m := range all {
				for _, one := range []api.Lock{{Owner: o, From: i, To: i + 1}, {Owner: o, From: i, To: i + 1, Alone: true}} {
					if !m.refused(one) {
						next := m.clone()
						next.set(one, holds(one))
						all = append(all, next)
					}
				}
			}
		}
	}
	return all
}

// allLocks are all locks of these owners in these bytes.
func allLocks(owners, bytes int) []api.Lock {
	var l []api.Lock
	for o := range owners {
		for from := range bytes {
			for to := from + 1; to <= bytes; to++ {
				l = append(l, api.Lock{Owner: o, From: from, To: to}, api.Lock{Owner: o, From: from, To: to, Alone: true})
			}
		}
	}
	return l
}

func TestAgainstModel(t *testing.T) {
	for _, size := range []struct{ owners, bytes int }{{1, 7}, {2, 4}, {3, 3}} {
		xs := allLocks(size.owners, size.bytes)
		for _, m := range allModels(size.owners, size.bytes) {
			l := m.locks()
			if fault := Wrong(l); fault != (api.Fault{}) {
				t.Fatalf("Wrong(%v) is %v", l, fault)
			}
			for _, x := range xs {
				holdAgainst(t, m, l, x)
			}
			for o := range size.owners {
				left := m.clone()
				left.set(api.Lock{Owner: o, To: size.bytes}, nothing)
				if got := Leave(l, o); !slices.Equal(got, left.locks()) {
					t.Fatalf("Leave(%v, %d) is %v", l, o, got)
				}
			}
		}
	}
}

// holdAgainst asks Meets, Take and Free of l, which are the locks of m, and of x.
func holdAgainst(t *testing.T, m model, l []api.Lock, x api.Lock) {
	t.Helper()
	y, met := Meets(l, x)
	if first := modelMeets(l, x); met != m.refused(x) || y != first {
		t.Fatalf("Meets(%v, %v) is %v, %t", l, x, y, met)
	}
	freed := m.clone()
	freed.set(x, nothing)
	if got, err := Free(l, x); err != api.OK || !slices.Equal(got, freed.locks()) {
		t.Fatalf("Free(%v, %v) is %v, %d", l, x, got, err)
	}
	got, err := Take(l, x)
	if met {
		if err != api.ErrHeld || len(got) != 0 {
			t.Fatalf("Take(%v, %v) is %v, %d", l, x, got, err)
		}
		return
	}
	taken := m.clone()
	taken.set(x, holds(x))
	if err != api.OK || !slices.Equal(got, taken.locks()) || Wrong(got) != (api.Fault{}) {
		t.Fatalf("Take(%v, %v) is %v, %d", l, x, got, err)
	}
}

// modelMeets asks the locks one by one, each as if there were no other.
func modelMeets(l []api.Lock, x api.Lock) api.Lock {
	for _, y := range l {
		if modelOf(api.MaxOwner, 10, []api.Lock{y}).refused(x) {
			return y
		}
	}
	return api.Lock{}
}

// A list is right as far as it is what its bytes come to.
func TestWrongAgainstModel(t *testing.T) {
	const owners, bytes = 3, 3
	xs := allLocks(owners, bytes)
	for _, a := range xs {
		for _, b := range xs {
			for _, c := range xs {
				l := []api.Lock{a, b, c}
				if got, want := Wrong(l), modelWrong(owners, bytes, l); got != want {
					t.Fatalf("Wrong(%v) is %v, not %v", l, got, want)
				}
			}
		}
	}
}

func modelWrong(owners, bytes int, l []api.Lock) api.Fault {
	for i, x := range l {
		if !slices.Equal(modelOf(owners, bytes, l[:i+1]).locks(), l[:i+1]) {
			return api.Fault{Err: api.ErrForm, At: i}
		}
		if modelOf(owners, bytes, l[:i]).refused(x) {
			return api.Fault{Err: api.ErrFit, At: i}
		}
	}
	return api.Fault{}
}

// What comes of it: what is taken and freed again is as if its owner had never had it.
func TestTakenAndFreed(t *testing.T) {
	for _, m := range allModels(2, 4) {
		l := m.locks()
		for _, x := range allLocks(3, 4) {
			taken, err := Take(l, x)
			if err != api.OK {
				continue
			}
			back, backErr := Free(taken, x)
			freed, freedErr := Free(l, x)
			if backErr != api.OK || freedErr != api.OK || !slices.Equal(back, freed) {
				t.Fatalf("Take and Free of %v in %v is %v, %d, and not %v", x, l, back, backErr, freed)
			}
			again, againErr := Take(taken, x)
			if againErr != api.OK || !slices.Equal(again, taken) {
				t.Fatalf("Take of %v in %v, twice, is %v, %d", x, l, again, againErr)
			}
		}
	}
}
