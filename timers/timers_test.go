package timers

import (
	"cmp"
	"container/heap"
	"math"
	"math/rand/v2"
	"slices"
	"sync"
	"testing"

	"withy/api"
)

// The pile is what package heap asks for.
var _ heap.Interface = &pile{}

// set is one that is set: an id and its time.
type set struct {
	id, at int
}

// below are numbers below 0, some of them with low bits that would go.
var below = []int{-1, -2, -api.MaxTimers, -1 << 32, 1 - math.MaxInt, math.MinInt + 1, math.MinInt}

// of gives timers with these set, in their row.
func of(t *testing.T, all ...set) *Timers {
	t.Helper()
	ts := New()
	for _, s := range all {
		setGives(t, ts, s.id, s.at, api.OK)
	}
	return ts
}

// full gives timers of which no further one can be set: the ids 0 to
// MaxTimers - 1, the time of each as far from the end as its id is from 0.
func full(t *testing.T) *Timers {
	t.Helper()
	ts := New()
	for id := range api.MaxTimers {
		setGives(t, ts, id, api.MaxTimers-id, api.OK)
	}
	return ts
}

// setGives holds Set to what it answers.
func setGives(t *testing.T, ts *Timers, id, at int, want api.Errno) {
	t.Helper()
	if e := ts.Set(id, at); e != want {
		t.Errorf("Set(%d, %d) = %d, want %d", id, at, e, want)
	}
}

// stopGives holds Stop to what it answers.
func stopGives(t *testing.T, ts *Timers, id int, want api.Errno) {
	t.Helper()
	if e := ts.Stop(id); e != want {
		t.Errorf("Stop(%d) = %d, want %d", id, e, want)
	}
}

// nextGives holds Next to an id and a time.
func nextGives(t *testing.T, ts *Timers, id, at int) {
	t.Helper()
	if i, a, e := ts.Next(); i != id || a != at || e != api.OK {
		t.Errorf("Next() = %d, %d, %d, want %d, %d", i, a, e, id, at)
	}
}

// nextRefuses holds Next to an error alone (R2).
func nextRefuses(t *testing.T, ts *Timers, want api.Errno) {
	t.Helper()
	if i, a, e := ts.Next(); i != 0 || a != 0 || e != want {
		t.Errorf("Next() = %d, %d, %d, want the error %d alone", i, a, e, want)
	}
}

// dueGives holds Due to its ids.
func dueGives(t *testing.T, ts *Timers, now int, want ...int) {
	t.Helper()
	if ids := ts.Due(now); !slices.Equal(ids, want) {
		t.Errorf("Due(%d) = %v, want %v", now, ids, want)
	}
}

// lenGives holds Len to a number.
func lenGives(t *testing.T, ts *Timers, want int) {
	t.Helper()
	if n := ts.Len(); n != want {
		t.Errorf("Len() = %d, want %d", n, want)
	}
}

// holds fails unless these are set and no others, in the row in which they
// fall due. They are gone then.
func holds(t *testing.T, ts *Timers, all ...set) {
	t.Helper()
	lenGives(t, ts, len(all))
	for i, s := range all {
		nextGives(t, ts, s.id, s.at)
		stopGives(t, ts, s.id, api.OK)
		lenGives(t, ts, len(all)-i-1)
	}
	nextRefuses(t, ts, api.ErrTimerNone)
	dueGives(t, ts, math.MaxInt)
}

// P11.1: none is set at first.
func TestNew(t *testing.T) {
	for _, ts := range []*Timers{New(), {}} {
		lenGives(t, ts, 0)
		nextRefuses(t, ts, api.ErrTimerNone)
		for _, n := range append([]int{0, 1, math.MaxInt}, below...) {
			dueGives(t, ts, n)
			stopGives(t, ts, n, api.ErrTimerNone)
		}
		setGives(t, ts, 7, 9, api.OK)
		holds(t, ts, set{7, 9})
	}
}

// P11.1: a row by hand, through all the calls.
func TestOrdinary(t *testing.T) {
	ts := of(t, set{4, 30}, set{2, 10}, set{3, 20}, set{1, 20})
	lenGives(t, ts, 4)
	nextGives(t, ts, 2, 10)
	dueGives(t, ts, 9)
	dueGives(t, ts, 10, 2)
	lenGives(t, ts, 3)
	nextGives(t, ts, 1, 20)
	stopGives(t, ts, 2, api.ErrTimerNone)
	setGives(t, ts, 2, 15, api.OK)
	nextGives(t, ts, 2, 15)
	stopGives(t, ts, 2, api.OK)
	stopGives(t, ts, 2, api.ErrTimerNone)
	setGives(t, ts, 4, 5, api.OK)
	dueGives(t, ts, 20, 4, 1, 3)
	lenGives(t, ts, 0)
	nextRefuses(t, ts, api.ErrTimerNone)
}

// P11.1: the ends of what may be set, and what is refused, which changes
// nothing (R5).
func TestSetForm(t *testing.T) {
	ts := of(t, set{5, 5})
	for _, n := range below {
		for _, good := range []int{0, 1, 5, math.MaxInt} {
			setGives(t, ts, n, good, api.ErrTimerForm)
			setGives(t, ts, good, n, api.ErrTimerForm)
		}
		for _, m := range below {
			setGives(t, ts, n, m, api.ErrTimerForm)
		}
	}
	nextGives(t, ts, 5, 5)
	setGives(t, ts, 0, 0, api.OK)
	setGives(t, ts, math.MaxInt, 0, api.OK)
	setGives(t, ts, 1, math.MaxInt, api.OK)
	setGives(t, ts, math.MaxInt-1, math.MaxInt, api.OK)
	holds(t, ts, set{0, 0}, set{math.MaxInt, 0}, set{5, 5}, set{1, math.MaxInt}, set{math.MaxInt - 1, math.MaxInt})
}

// P11.1: an elder time is gone, whether the new one is sooner, later or the
// same, and wherever the id stands among others.
func TestSetAgain(t *testing.T) {
	for id := range 5 {
		for at := range 60 {
			ts, want := New(), []set{{id, at}}
			for other := range 5 {
				setGives(t, ts, other, 10+10*other, api.OK)
				if other != id {
					want = append(want, set{other, 10 + 10*other})
				}
			}
			setGives(t, ts, id, at, api.OK)
			slices.SortFunc(want, byTime)
			holds(t, ts, want...)
		}
	}
}

// P11.1: a time that was put off is not due at the elder one.
func TestPutOff(t *testing.T) {
	ts := of(t, set{1, 10}, set{1, 20})
	dueGives(t, ts, 19)
	lenGives(t, ts, 1)
	dueGives(t, ts, 20, 1)
	dueGives(t, ts, 20)
}

// P11.1: of MaxTimers no further one is taken, but each of them may be set
// anew; where one is gone there is room again. R6: the form is told first.
func TestFull(t *testing.T) {
	ts := full(t)
	lenGives(t, ts, api.MaxTimers)
	for _, id := range []int{api.MaxTimers, api.MaxTimers + 1, 1 << 32, math.MaxInt} {
		setGives(t, ts, id, 0, api.ErrTimerFull)
		setGives(t, ts, id, math.MaxInt, api.ErrTimerFull)
		setGives(t, ts, id, -1, api.ErrTimerForm)
		stopGives(t, ts, id, api.ErrTimerNone)
	}
	setGives(t, ts, -1, 0, api.ErrTimerForm)
	lenGives(t, ts, api.MaxTimers)
	nextGives(t, ts, api.MaxTimers-1, 1)
	for id := range api.MaxTimers {
		setGives(t, ts, id, 5000+id, api.OK)
		lenGives(t, ts, api.MaxTimers)
	}
	dueGives(t, ts, 4999)
	stopGives(t, ts, 100, api.OK)
	setGives(t, ts, api.MaxTimers, 0, api.OK)
	setGives(t, ts, 100, 0, api.ErrTimerFull)
	dueGives(t, ts, 5001, api.MaxTimers, 0, 1)
	for id := 1000; id < 1003; id++ {
		setGives(t, ts, id, 1, api.OK)
	}
	setGives(t, ts, 1003, 1, api.ErrTimerFull)
	lenGives(t, ts, api.MaxTimers)
	dueGives(t, ts, 1, 1000, 1001, 1002)
}

// P11.1: what is stopped is gone, from each place; what is not there is told,
// and takes nothing away.
func TestStop(t *testing.T) {
	for gone := range 20 {
		ts, want := New(), []set{}
		for n := range 20 {
			id := n * 7 % 20
			setGives(t, ts, id, n, api.OK)
			if id != gone {
				want = append(want, set{id, n})
			}
		}
		for _, id := range append([]int{20, 1<<32 | gone, math.MaxInt}, below...) {
			stopGives(t, ts, id, api.ErrTimerNone)
		}
		lenGives(t, ts, 20)
		stopGives(t, ts, gone, api.OK)
		stopGives(t, ts, gone, api.ErrTimerNone)
		holds(t, ts, want...)
	}
}

// P11.1: of like times the least id comes first, whichever row they were set
// in; a lesser time goes ahead of a lesser id.
func TestLikeTimes(t *testing.T) {
	chance := rand.New(rand.NewPCG(11, 1))
	for range 50 {
		ts := New()
		for _, id := range chance.Perm(40) {
			setGives(t, ts, id, 9-id/10, api.OK)
		}
		nextGives(t, ts, 30, 6)
		dueGives(t, ts, 7, 30, 31, 32, 33, 34, 35, 36, 37, 38, 39, 20, 21, 22, 23, 24, 25, 26, 27, 28, 29)
		nextGives(t, ts, 10, 8)
		dueGives(t, ts, 9, 10, 11, 12, 13, 14, 15, 16, 17, 18, 19, 0, 1, 2, 3, 4, 5, 6, 7, 8, 9)
	}
}

// P11.1: Next takes nothing away, and tells the same till something changes.
func TestNextStays(t *testing.T) {
	ts := of(t, set{3, 8}, set{2, 8}, set{1, 9})
	for range 3 {
		nextGives(t, ts, 2, 8)
		lenGives(t, ts, 3)
	}
	setGives(t, ts, 9, 7, api.OK)
	nextGives(t, ts, 9, 7)
	stopGives(t, ts, 9, api.OK)
	holds(t, ts, set{2, 8}, set{3, 8}, set{1, 9})
}

// P11.1: due are those at now too, and not those one behind it; the times may
// be the least and the greatest that there are, now may be below 0.
func TestDueEdges(t *testing.T) {
	ts := of(t, set{1, 0}, set{2, 1}, set{3, math.MaxInt - 1}, set{4, math.MaxInt})
	for _, now := range below {
		dueGives(t, ts, now)
	}
	lenGives(t, ts, 4)
	dueGives(t, ts, 0, 1)
	dueGives(t, ts, 0)
	dueGives(t, ts, math.MaxInt-2, 2)
	dueGives(t, ts, math.MaxInt-1, 3)
	dueGives(t, ts, 5)
	dueGives(t, ts, math.MaxInt, 4)
	lenGives(t, ts, 0)
}

// P11.1: all that there can be fall due at one time.
func TestDueOfAll(t *testing.T) {
	ts, want := full(t), make([]int, api.MaxTimers)
	for i := range want {
		want[i] = api.MaxTimers - 1 - i
	}
	dueGives(t, ts, api.MaxTimers, want...)
	lenGives(t, ts, 0)
}

// P11.1: now may go back; what is set in the past is due at once.
func TestNowGoesBack(t *testing.T) {
	ts := of(t, set{1, 100}, set{2, 50})
	dueGives(t, ts, 100, 2, 1)
	setGives(t, ts, 2, 50, api.OK)
	dueGives(t, ts, 49)
	dueGives(t, ts, 50, 2)
}

// R3: a nil pointer.
func TestNil(t *testing.T) {
	var ts *Timers
	for _, n := range append([]int{0, 1, math.MaxInt}, below...) {
		setGives(t, ts, n, 1, api.ErrNil)
		setGives(t, ts, 1, n, api.ErrNil)
		stopGives(t, ts, n, api.ErrNil)
		dueGives(t, ts, n)
	}
	nextRefuses(t, ts, api.ErrNil)
	lenGives(t, ts, 0)
}

// R4: what Due gives is its own memory.
func TestAnswersAreNew(t *testing.T) {
	ts := full(t)
	first := ts.Due(10)
	rest := first[:cap(first)]
	for i := range rest {
		rest[i] = -1
	}
	second := ts.Due(20)
	for i := range rest {
		rest[i] = -2
	}
	for i, id := range second {
		if id != api.MaxTimers-11-i {
			t.Errorf("place %d of the second answer is %d", i, id)
		}
	}
	nextGives(t, ts, api.MaxTimers-21, 21)
}

// R5: each object has its own.
func TestApart(t *testing.T) {
	a, b := New(), New()
	setGives(t, a, 1, 1, api.OK)
	lenGives(t, b, 0)
	setGives(t, b, 1, 2, api.OK)
	setGives(t, b, 2, 1, api.OK)
	stopGives(t, b, 1, api.OK)
	holds(t, a, set{1, 1})
	holds(t, b, set{2, 1})
}

// R5: objects of their own may be worked on at one time.
func TestAtOneTime(t *testing.T) {
	var all sync.WaitGroup
	for seed := range uint64(8) {
		all.Go(func() { walk(t, rand.New(rand.NewPCG(11, seed)), 1000, 40, 40) })
	}
	all.Wait()
}

// byTime is the row in which they fall due.
func byTime(a, b set) int {
	return cmp.Or(cmp.Compare(a.at, b.at), cmp.Compare(a.id, b.id))
}

// model is what P11.1 says, in the plainest way.
type model []set

// set is Set.
func (m *model) set(id, at int) api.Errno {
	place := m.place(id)
	switch {
	case id < 0 || at < 0:
		return api.ErrTimerForm
	case place < 0 && len(*m) == api.MaxTimers:
		return api.ErrTimerFull
	}
	m.stop(id)
	*m = append(*m, set{id, at})
	slices.SortFunc(*m, byTime)
	return api.OK
}

// stop is Stop.
func (m *model) stop(id int) api.Errno {
	place := m.place(id)
	if place < 0 {
		return api.ErrTimerNone
	}
	*m = slices.Delete(*m, place, place+1)
	return api.OK
}

// due is Due.
func (m *model) due(now int) []int {
	var ids []int
	for len(*m) > 0 && (*m)[0].at <= now {
		ids = append(ids, (*m)[0].id)
		*m = (*m)[1:]
	}
	return ids
}

// place gives where an id stands.
func (m *model) place(id int) int {
	return slices.IndexFunc(*m, func(s set) bool { return s.id == id })
}

// walk holds timers to the model over a row of calls by chance, with about so
// many ids and times.
func walk(t *testing.T, chance *rand.Rand, calls, ids, times int) {
	t.Helper()
	ts, m, now := New(), model{}, 0
	for range calls {
		id, at := chance.IntN(ids)-1, now+chance.IntN(times)-1
		switch chance.IntN(8) {
		case 0:
			stopGives(t, ts, id, m.stop(id))
		case 1:
			now += chance.IntN(3)
			dueGives(t, ts, now, m.due(now)...)
		default:
			setGives(t, ts, id, at, m.set(id, at))
		}
		lenGives(t, ts, len(m))
		if len(m) == 0 {
			nextRefuses(t, ts, api.ErrTimerNone)
		} else {
			nextGives(t, ts, m[0].id, m[0].at)
		}
		if t.Failed() {
			return
		}
	}
	holds(t, ts, m...)
}

// P11.1: rows of calls by chance, with few ids and many, like times and
// unlike ones, and more ids than MaxTimers.
func TestWalks(t *testing.T) {
	for seed := range uint64(20) {
		chance := rand.New(rand.NewPCG(seed, 11))
		walk(t, chance, 500, 3, 5)
		walk(t, chance, 500, 50, 3)
		walk(t, chance, 500, 50, 1000)
		walk(t, chance, 4000, 2*api.MaxTimers, 100_000)
		walk(t, chance, 2000, api.MaxTimers+2, 4)
	}
}

// Of thousands of ticks each sets all timers anew.
func TestSize(t *testing.T) {
	ts := full(t)
	for now := range api.MaxTicks {
		for id := range api.MaxTimers {
			if e := ts.Set(id, now+1+id); e != api.OK {
				t.Fatalf("Set(%d, %d) = %d", id, now+1+id, e)
			}
		}
		if ids := ts.Due(now + 1); !slices.Equal(ids, []int{0}) {
			t.Fatalf("Due(%d) = %v", now+1, ids)
		}
	}
}

func BenchmarkSetAndDue(b *testing.B) {
	ts := New()
	for now := 0; b.Loop(); now++ {
		ts.Set(now%api.MaxTimers, now+now*31%api.MaxTimers)
		ts.Due(now)
	}
}
