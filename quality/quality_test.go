package quality

import (
	"fmt"
	"math"
	"math/big"
	"math/rand/v2"
	"sync"
	"testing"

	"withy/api"
)

// below are numbers below 0, some of them with low bits that would go.
var below = []int{-1, -2, -1000, -1 << 31, 1 - 1<<31, -1 << 32, 1 - 1<<32, 5 - 1<<32, math.MinInt + 1, math.MinInt}

// beyond are numbers above 2^31 - 1, some of them with low bits that would go.
var beyond = []int{1 << 31, 1<<31 + 1, 1<<32 - 1, 1 << 32, 1<<32 + 1, 1<<32 + 5, 1 << 62, math.MaxInt - 1, math.MaxInt}

// made gives what New makes of what it can't refuse.
func made(t *testing.T, window, good, of int) *Quality {
	t.Helper()
	q, e := New(window, good, of)
	if q == nil || e != api.OK {
		t.Fatalf("New(%d, %d, %d) = %v, %d", window, good, of, q, e)
	}
	return q
}

// newRefuses holds New to the error alone (R2).
func newRefuses(t *testing.T, window, good, of int) {
	t.Helper()
	if q, e := New(window, good, of); q != nil || e != api.ErrQualityForm {
		t.Errorf("New(%d, %d, %d) = %v, %d, want the error %d alone", window, good, of, q, e, api.ErrQualityForm)
	}
}

// adds holds Add to no error.
func adds(t *testing.T, q *Quality, sent, got int) {
	t.Helper()
	if e := q.Add(sent, got); e != api.OK {
		t.Errorf("Add(%d, %d) = %d, want no error", sent, got, e)
	}
}

// addRefuses holds Add to the error, which changes nothing (R5).
func addRefuses(t *testing.T, q *Quality, sent, got int) {
	t.Helper()
	was := *q
	if e := q.Add(sent, got); e != api.ErrQualityForm || *q != was {
		t.Errorf("Add(%d, %d) = %d, want the error %d, and nothing changed", sent, got, e, api.ErrQualityForm)
	}
}

// tells holds Good to what it tells, twice: it changes nothing.
func tells(t *testing.T, q *Quality, want bool) {
	t.Helper()
	was := *q
	for range 2 {
		if is := q.Good(); is != want {
			t.Errorf("Good() = %t, want %t", is, want)
		}
	}
	if *q != was {
		t.Error("Good has changed the quality")
	}
}

// P17.1: without reports nothing was sent, so that nothing is lacking; and
// behind a report each of what New takes counts.
func TestNew(t *testing.T) {
	for window := 1; window <= api.MaxWindow; window++ {
		for _, of := range []int{1, 2, 3, 10, 999, 1000} {
			for _, good := range []int{0, 1, of / 2, of - 1, of} {
				q := made(t, window, good, of)
				tells(t, q, true)
				adds(t, q, of, good)
				tells(t, q, true)
				if good > 0 {
					q = made(t, window, good, of)
					adds(t, q, of, good-1)
					tells(t, q, false)
				}
			}
		}
	}
}

// P17.1: each good and each of there can be, on either side of the bound.
func TestEachPart(t *testing.T) {
	for of := 1; of <= 1000; of++ {
		for good := 0; good <= of; good++ {
			q := made(t, 2, good, of)
			if e := q.Add(of, good); e != api.OK || !q.Good() {
				t.Fatalf("%d of %d with %d of %d got: %d, %t", good, of, good, of, e, q.Good())
			}
			if e := q.Add(1, 0); e != api.OK || q.Good() != (good == 0) {
				t.Fatalf("%d of %d with %d of %d got: %d, %t", good, of, good, of+1, e, q.Good())
			}
		}
	}
}

// P17.1: a window that is not from 1 to MaxWindow.
func TestWindowForm(t *testing.T) {
	windows := append([]int{0, api.MaxWindow + 1, 64, 256, 257, 1<<16 + 1}, below...)
	for _, window := range append(windows, beyond...) {
		newRefuses(t, window, 1, 2)
		newRefuses(t, window, 0, 1)
		newRefuses(t, window, 1000, 1000)
	}
}

// P17.1: a number of parts that is not from 1 to 1000, whatever good is.
func TestOfForm(t *testing.T) {
	all := append([]int{0, 1001, 1024, 1<<16 + 1}, below...)
	for _, of := range append(all, beyond...) {
		for _, good := range []int{of, 0, 1, -1, 1000, 1001, math.MinInt, math.MaxInt} {
			newRefuses(t, 1, good, of)
			newRefuses(t, api.MaxWindow, good, of)
		}
	}
}

// P17.1: parts that are not from 0 to of.
func TestGoodForm(t *testing.T) {
	for _, of := range []int{1, 2, 3, 500, 999, 1000} {
		for _, good := range append([]int{of + 1, 1001, 1<<16 + of}, below...) {
			newRefuses(t, 1, good, of)
			newRefuses(t, api.MaxWindow, good, of)
		}
		for _, good := range beyond {
			newRefuses(t, 1, good, of)
		}
	}
	newRefuses(t, 0, 0, 0)
	newRefuses(t, math.MaxInt, math.MaxInt, math.MaxInt)
	newRefuses(t, math.MinInt, math.MinInt, math.MinInt)
}

// P17.1: reports worked out by hand: nine of ten parts, of the last three.
func TestReports(t *testing.T) {
	q := made(t, 3, 9, 10)
	for _, c := range []struct {
		sent, got int
		want      bool
	}{
		{10, 9, true},    // 9 of 10
		{10, 8, false},   // 17 of 20
		{10, 10, true},   // 27 of 30
		{1, 0, false},    // 18 of 21: the first is gone
		{10, 10, true},   // 20 of 21: the second is gone
		{0, 0, true},     // 10 of 11
		{0, 0, true},     // 10 of 10
		{0, 0, true},     // 0 of 0
		{1, 0, false},    // 0 of 1
		{8, 8, false},    // 8 of 9
		{1, 1, true},     // 9 of 10
		{100, 89, false}, // 98 of 109
		{100, 90, false}, // 180 of 201
		{10, 10, true},   // 189 of 210
	} {
		adds(t, q, c.sent, c.got)
		if q.Good() != c.want {
			t.Errorf("behind %d of %d: Good() = %t, want %t", c.got, c.sent, q.Good(), c.want)
		}
	}
}

// P17.1: the sums are held, not each report, nor their quotients: one of much
// weighs more than many of little.
func TestSums(t *testing.T) {
	q := made(t, 4, 1, 2)
	for range 3 {
		adds(t, q, 1, 0)
		tells(t, q, false)
	}
	adds(t, q, 1000, 502)
	tells(t, q, true)
	q = made(t, 4, 1, 2)
	for range 3 {
		adds(t, q, 1, 1)
		tells(t, q, true)
	}
	adds(t, q, 1000, 498)
	tells(t, q, false)
	// 1 of 3 is less than 334 of 1000, and more than 333 of 1000.
	for good, want := range map[int]bool{333: true, 334: false} {
		q = made(t, 1, good, 1000)
		adds(t, q, 3, 1)
		tells(t, q, want)
	}
}

// P17.1: of each window a bad report stays as long as it says, and no longer,
// wherever in the ring it falls.
func TestWindow(t *testing.T) {
	for window := 1; window <= api.MaxWindow; window++ {
		for ahead := range 2*window + 1 {
			q := made(t, window, 1, 1)
			for range ahead {
				adds(t, q, 5, 5)
			}
			tells(t, q, true)
			adds(t, q, 5, 4)
			for range window {
				tells(t, q, false)
				adds(t, q, 5, 5)
			}
			tells(t, q, true)
		}
	}
}

// P17.1: a report of nothing is a report too, that has the first go.
func TestReportOfNothing(t *testing.T) {
	for window := 1; window <= api.MaxWindow; window++ {
		q := made(t, window, 1, 1000)
		adds(t, q, 1, 0)
		for range window - 1 {
			adds(t, q, 0, 0)
			tells(t, q, false)
		}
		adds(t, q, 0, 0)
		tells(t, q, true)
	}
}

// P17.1: where no part is asked for each link is good; where all are, one that
// lacks a single one isn't.
func TestEndsOfGood(t *testing.T) {
	for _, of := range []int{1, 7, 1000} {
		none, all := made(t, 2, 0, of), made(t, 2, of, of)
		for _, sent := range []int{1, 1000, 1<<31 - 1} {
			adds(t, none, sent, 0)
			tells(t, none, true)
			adds(t, all, sent, sent)
			tells(t, all, true)
		}
		adds(t, all, 1<<31-1, 1<<31-2)
		tells(t, all, false)
	}
}

// P17.1: the greatest reports, a whole window of them, to the last one got.
func TestGreatest(t *testing.T) {
	const most = 1<<31 - 1
	for window := 1; window <= api.MaxWindow; window++ {
		for _, c := range []struct{ good, of int }{{1, 1}, {1000, 1000}, {999, 1000}, {1, 1000}, {1, 3}, {2, 3}, {0, 1000}} {
			q := made(t, window, c.good, c.of)
			for range window {
				adds(t, q, most, most)
			}
			tells(t, q, true)
			// What has to be got of all that was sent, rounded up.
			left := (window*most*c.good + c.of - 1) / c.of
			lack := min(1, left)
			left -= lack
			for range window {
				adds(t, q, most, min(left, most))
				left -= min(left, most)
			}
			tells(t, q, lack == 0)
			if lack == 0 {
				continue
			}
			q = made(t, window, c.good, c.of)
			left = (window*most*c.good + c.of - 1) / c.of
			for range window {
				adds(t, q, most, min(left, most))
				left -= min(left, most)
			}
			tells(t, q, true)
		}
	}
}

// P17.1: what Add refuses, of which nothing is kept, in a ring that is empty,
// in one that isn't full, and in one that is.
func TestAddForm(t *testing.T) {
	for _, reports := range []int{0, 1, 3, 4, 9} {
		for _, good := range []int{0, 5, 10} {
			q := made(t, 4, good, 10)
			for range reports {
				adds(t, q, 10, 5)
			}
			for _, sent := range append(append([]int{}, below...), beyond...) {
				for _, got := range []int{0, 1, -1, sent, sent - 1, sent / 2, 1<<31 - 1, math.MinInt, math.MaxInt} {
					addRefuses(t, q, sent, got)
				}
			}
			for _, sent := range []int{0, 1, 2, 255, 1<<31 - 2, 1<<31 - 1} {
				for _, got := range append(append([]int{sent + 1, 1<<32 + sent}, below...), beyond...) {
					addRefuses(t, q, sent, got)
				}
			}
			tells(t, q, reports == 0 || good <= 5)
			adds(t, q, 0, 0)
			adds(t, q, 1<<31-1, 0)
			tells(t, q, good == 0)
			adds(t, q, 1<<31-1, 1<<31-1)
			tells(t, q, good <= 5)
		}
	}
}

// R3: a nil quality.
func TestNil(t *testing.T) {
	var q *Quality
	for _, n := range []int{0, 1, -1, math.MaxInt, math.MinInt} {
		if e := q.Add(n, n); e != api.ErrNil {
			t.Errorf("Add(%d, %d) = %d, want %d", n, n, e, api.ErrNil)
		}
	}
	if q.Good() {
		t.Error("a nil quality is good")
	}
}

// R1: a quality that New has not made ends each call.
func TestUnmade(t *testing.T) {
	q := new(Quality)
	for range 2 * api.MaxWindow {
		q.Good()
		adds(t, q, 5, 4)
	}
	addRefuses(t, q, 4, 5)
}

// model is a second way to tell what a quality tells: all reports there were,
// and numbers without an end.
type model struct {
	window, good, of int
	all              [][2]int
}

// add is Add.
func (m *model) add(sent, got int) api.Errno {
	if sent < 0 || sent > 2147483647 || got < 0 || got > sent {
		return api.ErrQualityForm
	}
	m.all = append(m.all, [2]int{sent, got})
	return api.OK
}

// isGood is Good.
func (m *model) isGood() bool {
	sent, got := new(big.Int), new(big.Int)
	for _, n := range m.all[max(0, len(m.all)-m.window):] {
		sent.Add(sent, big.NewInt(int64(n[0])))
		got.Add(got, big.NewInt(int64(n[1])))
	}
	sent.Mul(sent, big.NewInt(int64(m.good)))
	got.Mul(got, big.NewInt(int64(m.of)))
	return got.Cmp(sent) >= 0
}

// chance gives a report by chance, near to good of of; most may be.
func (m *model) chance(r *rand.Rand) (int, int) {
	sent := r.IntN([]int{3, 20, 1000, 1 << 31}[r.IntN(4)])
	got := sent*m.good/m.of + r.IntN(5) - 2
	switch r.IntN(20) {
	case 0:
		got = r.IntN(sent + 3)
	case 1:
		sent = int(r.Int64()) >> r.IntN(64)
	case 2:
		got = -int(r.Int64()) >> r.IntN(64)
	}
	return sent, got
}

// walk holds a quality to the model over a row of reports by chance; it gives
// how often the quality was good, and how often it wasn't.
func walk(t *testing.T, r *rand.Rand, reports int) (int, int) {
	t.Helper()
	of := 1 + r.IntN(1000)
	m := model{window: 1 + r.IntN(api.MaxWindow), good: r.IntN(of + 1), of: of}
	q := made(t, m.window, m.good, m.of)
	good, bad := 0, 0
	for range reports {
		sent, got := m.chance(r)
		e, f := q.Add(sent, got), m.add(sent, got)
		is, want := q.Good(), m.isGood()
		if e != f || is != want {
			t.Fatalf("%d of %d, window %d: Add(%d, %d) = %d, Good() = %t, want %d, %t", m.good, m.of, m.window, sent, got, e, is, f, want)
		}
		if is {
			good++
		} else {
			bad++
		}
	}
	return good, bad
}

// P17.1: rows of reports by chance, behind which links are good and bad.
func TestWalks(t *testing.T) {
	good, bad := 0, 0
	for seed := range uint64(2000) {
		g, b := walk(t, rand.New(rand.NewPCG(seed, 17)), 100)
		good, bad = good+g, bad+b
	}
	if good < 1000 || bad < 1000 {
		t.Errorf("good %d times, bad %d times only", good, bad)
	}
}

// R4, R5: two qualities share nothing, and hang on their own reports alone.
func TestApart(t *testing.T) {
	a, b := made(t, 2, 1, 2), made(t, 2, 1, 2)
	adds(t, a, 2, 0)
	tells(t, a, false)
	tells(t, b, true)
	adds(t, b, 2, 2)
	adds(t, a, 2, 0)
	adds(t, a, 2, 0)
	tells(t, a, false)
	tells(t, b, true)
}

// R5: several qualities may be worked on at one time.
func TestAtOneTime(t *testing.T) {
	for seed := range uint64(8) {
		t.Run(fmt.Sprint(seed), func(t *testing.T) {
			t.Parallel()
			for row := range uint64(50) {
				walk(t, rand.New(rand.NewPCG(seed, row)), 100)
			}
		})
	}
	var all sync.WaitGroup
	for range 8 {
		all.Go(func() {
			if q, e := New(1, 1, 1); q == nil || e != api.OK || q.Add(2, 1) != api.OK || q.Good() {
				t.Errorf("New(1, 1, 1) = %v, %d", q, e)
			}
		})
	}
	all.Wait()
}

// Thousands of ticks, each with a report of the greatest window.
func TestSize(t *testing.T) {
	q := made(t, api.MaxWindow, 1, 2)
	for tick := range 100 * api.MaxTicks {
		if e := q.Add(1<<31-1, 1<<30); e != api.OK || !q.Good() {
			t.Fatalf("tick %d: %d, %t", tick, e, q.Good())
		}
	}
}

func BenchmarkAddGood(b *testing.B) {
	q, _ := New(api.MaxWindow, 9, 10)
	for n := 0; b.Loop(); n++ {
		q.Add(n%1000+10, n%10)
		q.Good()
	}
}
