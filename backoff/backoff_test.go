package backoff

import (
	"math"
	"math/big"
	"sync"
	"testing"

	"withy/api"
)

// below are numbers below 0, some of them with low bits that would go.
var below = []int{-1, -2, -api.MaxTicks, -1 << 32, 1 - 1<<32, 1 - math.MaxInt, math.MinInt + 1, math.MinInt}

// some are bases and caps: the ends, powers of 2 and what stands beside them.
var some = []int{
	1, 2, 3, 4, 5, 6, 7, 8, 9, 11, 12, 13, 15, 16, 17, 63, 64, 65, 100, 1000, 1023, 1024, 1025,
	2047, 2048, 2049, 3000, 4093, 4094, api.MaxTicks - 1, api.MaxTicks,
}

// gives holds Delay to what it answers.
func gives(t *testing.T, try, base, most, jitter, want int) {
	t.Helper()
	if d, e := Delay(try, base, most, jitter); d != want || e != api.OK {
		t.Errorf("Delay(%d, %d, %d, %d) = %d, %d, want %d", try, base, most, jitter, d, e, want)
	}
}

// refuses holds Delay to the error alone (R2).
func refuses(t *testing.T, try, base, most, jitter int) {
	t.Helper()
	if d, e := Delay(try, base, most, jitter); d != 0 || e != api.ErrBackoffForm {
		t.Errorf("Delay(%d, %d, %d, %d) = %d, %d, want the error %d alone", try, base, most, jitter, d, e, api.ErrBackoffForm)
	}
}

// answer gives what Delay answers to what it takes.
func answer(t *testing.T, try, base, most, jitter int) int {
	t.Helper()
	d, e := Delay(try, base, most, jitter)
	if e != api.OK {
		t.Fatalf("Delay(%d, %d, %d, %d) = %d, %d, want no error", try, base, most, jitter, d, e)
	}
	return d
}

// power is base times 2^try, at most most, by numbers without an end.
func power(try, base, most int) int {
	d := big.NewInt(int64(base))
	d.Lsh(d, uint(try))
	if d.Cmp(big.NewInt(int64(most))) > 0 {
		return most
	}
	return int(d.Int64())
}

// each calls f with each base and each cap of some that are taken together.
func each(f func(base, most int)) {
	for _, base := range some {
		for _, most := range some {
			if most >= base {
				f(base, most)
			}
		}
	}
}

// P12.1: answers worked out by hand.
func TestOrdinary(t *testing.T) {
	for try, want := range []int{3, 6, 12, 24, 48, 50, 50, 50} {
		gives(t, try, 3, 50, 0, want)
	}
	// Of 48 the rest is by 13.
	gives(t, 4, 3, 50, 1, 47)
	gives(t, 4, 3, 50, 12, 36)
	gives(t, 4, 3, 50, 13, 48)
	gives(t, 4, 3, 50, 27, 47)
	// Of the cap, 50, it is by 13 too.
	gives(t, 5, 3, 50, 12, 38)
	gives(t, 62, 3, 50, 14, 49)
	// Of 52 and of 51 it is by 14 and by 13.
	gives(t, 2, 13, 52, 13, 39)
	gives(t, 2, 13, 51, 13, 51)
}

// P12.1: of a d below 4 jitter takes nothing, of 4 to 7 at most 1.
func TestSmall(t *testing.T) {
	for d := 1; d < 8; d++ {
		for jitter := range 20 {
			want := d
			if d >= 4 && jitter%2 == 1 {
				want = d - 1
			}
			gives(t, 0, d, d, jitter, want)
			gives(t, 3, 1, d, jitter, want)
		}
	}
}

// P12.1: the ends of what is taken.
func TestEnds(t *testing.T) {
	gives(t, 0, 1, 1, 0, 1)
	gives(t, 62, 1, 1, 0, 1)
	gives(t, 62, 1, 1, math.MaxInt, 1)
	gives(t, 0, 1, api.MaxTicks, 0, 1)
	gives(t, 11, 1, api.MaxTicks, 0, 2048)
	gives(t, 12, 1, api.MaxTicks, 0, api.MaxTicks)
	gives(t, 13, 1, api.MaxTicks, 0, api.MaxTicks)
	gives(t, 62, 1, api.MaxTicks, 0, api.MaxTicks)
	gives(t, 0, api.MaxTicks, api.MaxTicks, 0, api.MaxTicks)
	gives(t, 62, api.MaxTicks, api.MaxTicks, 0, api.MaxTicks)
	gives(t, 62, api.MaxTicks, api.MaxTicks, 1024, 3072)
	gives(t, 62, api.MaxTicks, api.MaxTicks, 1025, api.MaxTicks)
	gives(t, 62, api.MaxTicks-1, api.MaxTicks-1, 1023, 3072)
	gives(t, 62, api.MaxTicks-1, api.MaxTicks-1, 1024, api.MaxTicks-1)
	gives(t, 0, api.MaxTicks, api.MaxTicks, math.MaxInt, api.MaxTicks-math.MaxInt%1025)
}

// P12.1: a try that is not from 0 to 62.
func TestTryForm(t *testing.T) {
	tries := append([]int{63, 64, 65, 126, 1 << 32, 1<<32 + 1, math.MaxInt}, below...)
	for _, try := range tries {
		refuses(t, try, 1, 1, 0)
		refuses(t, try, 3, 50, 7)
		refuses(t, try, api.MaxTicks, api.MaxTicks, math.MaxInt)
	}
}

// P12.1: a base that is not from 1 to MaxTicks, whatever the cap.
func TestBaseForm(t *testing.T) {
	bases := append([]int{0, api.MaxTicks + 1, 2 * api.MaxTicks, 1<<32 + 1, math.MaxInt}, below...)
	for _, base := range bases {
		for _, most := range []int{math.MinInt, -1, 0, 1, 50, api.MaxTicks, base, math.MaxInt} {
			refuses(t, 0, base, most, 0)
			refuses(t, 62, base, most, 7)
		}
	}
}

// P12.1: a cap that is below the base, or above MaxTicks.
func TestMostForm(t *testing.T) {
	for _, base := range some {
		most := append([]int{0, base - 1, base / 2, api.MaxTicks + 1, 1<<32 + base, math.MaxInt}, below...)
		for _, m := range most {
			if m == base {
				continue
			}
			refuses(t, 0, base, m, 0)
			refuses(t, 62, base, m, 7)
		}
	}
}

// P12.1: a jitter below 0, those that leave no rest too.
func TestJitterForm(t *testing.T) {
	for _, jitter := range append([]int{-13, -26, -1025}, below...) {
		refuses(t, 0, 1, 1, jitter)
		refuses(t, 4, 3, 50, jitter)
		refuses(t, 62, api.MaxTicks, api.MaxTicks, jitter)
	}
}

// P12.1: several wrong inputs at one time.
func TestAllWrong(t *testing.T) {
	for _, n := range below {
		refuses(t, n, n, n, n)
		refuses(t, 63, 0, 0, n)
		refuses(t, n, api.MaxTicks+1, api.MaxTicks+1, 0)
	}
	refuses(t, math.MaxInt, math.MaxInt, math.MaxInt, math.MaxInt)
}

// P12.1: each try, with each base and cap, against numbers that don't
// outgrow.
func TestDoubling(t *testing.T) {
	each(func(base, most int) {
		for try := range 63 {
			gives(t, try, base, most, 0, power(try, base, most))
		}
	})
}

// P12.1: each d there can be, and each jitter up to where the row has begun
// anew twice.
func TestJitter(t *testing.T) {
	for d := 1; d <= api.MaxTicks; d++ {
		want := d
		for jitter := range 2*(d/4+1) + 2 {
			if got := answer(t, 0, d, d, jitter); got != want {
				t.Fatalf("Delay(0, %d, %d, %d) = %d, want %d", d, d, jitter, got, want)
			}
			want--
			if d-want > d/4 {
				want = d
			}
		}
	}
}

// P12.1: great jitters, by numbers without an end.
func TestGreatJitter(t *testing.T) {
	for _, jitter := range []int{math.MaxInt, math.MaxInt - 1, math.MaxInt - 1024, math.MaxInt / 2, 1 << 32, 1<<32 - 1, 1<<31 + 5} {
		each(func(base, most int) {
			for _, try := range []int{0, 1, 5, 31, 32, 61, 62} {
				d := power(try, base, most)
				rest := new(big.Int).Mod(big.NewInt(int64(jitter)), big.NewInt(int64(d/4+1)))
				gives(t, try, base, most, jitter, d-int(rest.Int64()))
			}
		})
	}
}

// P12.2: from 3 d by 4, rounded up, to d, and both ends are come to.
func TestRange(t *testing.T) {
	each(func(base, most int) {
		for _, try := range []int{0, 1, 2, 5, 12, 62} {
			d := power(try, base, most)
			low, least, greatest := (3*d+3)/4, math.MaxInt, 0
			for jitter := range d/4 + 1 {
				got := answer(t, try, base, most, jitter)
				least, greatest = min(least, got), max(greatest, got)
			}
			if least != low || greatest != d {
				t.Errorf("Delay(%d, %d, %d, ..) goes from %d to %d, want %d to %d", try, base, most, least, greatest, low, d)
			}
		}
	})
}

// P12.2: without jitter it does not fall as the try grows, and it grows till
// the cap.
func TestNotFalling(t *testing.T) {
	for base := 1; base <= api.MaxTicks; base++ {
		for most := base; most <= api.MaxTicks; most += 1 + (api.MaxTicks-base)/8 {
			last := 0
			for try := range 63 {
				d := answer(t, try, base, most, 0)
				if d < last || d == last && d != most {
					t.Fatalf("Delay(%d, %d, %d, 0) = %d behind %d", try, base, most, d, last)
				}
				last = d
			}
		}
	}
}

// R5: nothing is kept from one call to the next.
func TestNothingIsKept(t *testing.T) {
	gives(t, 4, 3, 50, 1, 47)
	refuses(t, 63, 3, 50, 1)
	gives(t, 62, 3, 50, 1, 49)
	gives(t, 4, 3, 50, 1, 47)
	gives(t, 0, 3, 50, 1, 3)
}

// R5: several may call at one time.
func TestAtOneTime(t *testing.T) {
	var all sync.WaitGroup
	for n := range 8 {
		all.Go(func() {
			for try := range 63 {
				gives(t, try, n+1, 1000, 0, power(try, n+1, 1000))
			}
		})
	}
	all.Wait()
}

func BenchmarkDelay(b *testing.B) {
	for n := 0; b.Loop(); n++ {
		Delay(n%63, 1, api.MaxTicks, n)
	}
}
