package report

import (
	"math"
	"math/rand/v2"
	"slices"
	"strings"
	"sync"
	"testing"

	"withy/api"
)

// most is the greatest number that a report holds.
const most = 1<<32 - 1

// known are reports and how they stand, written out by hand.
var known = []struct {
	ns   []int
	want string
}{
	{[]int{0, 0, 0, 0, 0, 0, 0, 0, 0, 0, 0, 0}, strings.Repeat("\x00", 48)},
	{[]int{most, most, most, most, most, most, most, most, most, most, most, most}, strings.Repeat("\xff", 48)},
	{
		[]int{1, 2, 3, 4, 5, 6, 7, 8, 9, 10, 11, 12},
		"\x00\x00\x00\x01\x00\x00\x00\x02\x00\x00\x00\x03\x00\x00\x00\x04" +
			"\x00\x00\x00\x05\x00\x00\x00\x06\x00\x00\x00\x07\x00\x00\x00\x08" +
			"\x00\x00\x00\x09\x00\x00\x00\x0a\x00\x00\x00\x0b\x00\x00\x00\x0c",
	},
	{
		[]int{0x01020304, 255, 256, 0xff00, 1 << 16, 0xff0000, 1 << 24, 0xff000000, 1<<31 - 1, 1 << 31, most - 1, most},
		"\x01\x02\x03\x04\x00\x00\x00\xff\x00\x00\x01\x00\x00\x00\xff\x00" +
			"\x00\x01\x00\x00\x00\xff\x00\x00\x01\x00\x00\x00\xff\x00\x00\x00" +
			"\x7f\xff\xff\xff\x80\x00\x00\x00\xff\xff\xff\xfe\xff\xff\xff\xff",
	},
}

// outside are numbers that do not stand in four bytes, some of them with low
// bits that would.
var outside = []int{
	-1, -2, -255, -256, math.MinInt32, -most, -most - 1, -most - 2,
	1 << 32, 1<<32 + 1, 1<<33 - 1, 1 << 40, 1<<48 | 7, math.MaxInt - 1, math.MaxInt, math.MinInt, math.MinInt + 1,
}

// mixed gives n bytes of many values.
func mixed(n int) string {
	b := make([]byte, n)
	rand.NewChaCha8([32]byte{byte(n), byte(n >> 8)}).Read(b)
	return string(b)
}

// filled gives n numbers, each of them m.
func filled(n, m int) []int {
	return slices.Repeat([]int{m}, n)
}

// putRefuses holds Put to its error, and to no text beside it.
func putRefuses(t *testing.T, ns ...int) {
	t.Helper()
	if got, e := Put(ns...); got != "" || e != api.ErrReportForm {
		t.Errorf("Put(%d numbers, %.60v) = %q, %d, want %d", len(ns), ns, got, e, api.ErrReportForm)
	}
}

// putGives holds Put to one text.
func putGives(t *testing.T, want string, ns ...int) {
	t.Helper()
	if got, e := Put(ns...); got != want || e != api.OK {
		t.Errorf("Put(%v) = %q, %d, want %q", ns, got, e, want)
	}
}

// getRefuses holds Get to its error, and to no numbers beside it.
func getRefuses(t *testing.T, s string) {
	t.Helper()
	if got, e := Get(s); len(got) != 0 || e != api.ErrReportForm {
		t.Errorf("Get(%d bytes, %.20q) = %v, %d, want %d", len(s), s, got, e, api.ErrReportForm)
	}
}

// getGives holds Get to its numbers.
func getGives(t *testing.T, want []int, s string) {
	t.Helper()
	if got, e := Get(s); !slices.Equal(got, want) || e != api.OK {
		t.Errorf("Get(%q) = %v, %d, want %v", s, got, e, want)
	}
}

// P7.1: four bytes each, the high ones first, in their row.
func TestPutKnown(t *testing.T) {
	for _, k := range known {
		putGives(t, k.want, k.ns...)
	}
}

// P7.1: each value of each byte of each number has its own place.
func TestPutEachByte(t *testing.T) {
	for place := range 48 {
		for value := range 256 {
			ns, want := make([]int, 12), make([]byte, 48)
			ns[place/4] = value << (24 - place%4*8)
			want[place] = byte(value)
			putGives(t, string(want), ns...)
		}
	}
}

// P7.1: numbers that are not twelve are refused, none and very many too.
func TestPutCount(t *testing.T) {
	putRefuses(t)
	putRefuses(t, []int{}...)
	for n := range 100 {
		if n != 12 {
			putRefuses(t, filled(n, 0)...)
			putRefuses(t, filled(n, n)...)
			putRefuses(t, filled(n, most)...)
			putRefuses(t, filled(n, -1)...)
		}
	}
	for _, n := range []int{256, 268, api.MaxFrame, 1<<16 + 12} {
		putRefuses(t, filled(n, 1)...)
	}
}

// P7.1: a number beyond 0 to 2^32 - 1 is refused wherever it stands, alone and
// among others that are good or bad; those at the two ends go.
func TestPutRange(t *testing.T) {
	for place := range 12 {
		for _, n := range outside {
			for _, others := range []int{0, 1, most} {
				ns := filled(12, others)
				ns[place] = n
				putRefuses(t, ns...)
			}
		}
		for _, n := range []int{0, most} {
			ns, want := filled(12, 1), []byte(strings.Repeat("\x00\x00\x00\x01", 12))
			ns[place] = n
			copy(want[4*place:], strings.Repeat(string([]byte{byte(n)}), 4))
			putGives(t, string(want), ns...)
		}
	}
	for _, n := range outside {
		putRefuses(t, filled(12, n)...)
	}
}

// P7.1: the reports that are known.
func TestGetKnown(t *testing.T) {
	for _, k := range known {
		getGives(t, k.ns, k.want)
	}
}

// P7.1: each value of each byte counts in the number that it stands in.
func TestGetEachByte(t *testing.T) {
	for place := range 48 {
		for value := range 256 {
			s, want := make([]byte, 48), make([]int, 12)
			s[place] = byte(value)
			want[place/4] = value << (24 - place%4*8)
			getGives(t, want, string(s))
		}
	}
}

// P7.1: texts that have not 48 bytes are refused, whatever they are: a report
// with a byte less, and one with bytes behind it, too.
func TestGetSize(t *testing.T) {
	for n := range 300 {
		if n != 48 {
			getRefuses(t, mixed(n))
			getRefuses(t, strings.Repeat("\x00", n))
		}
	}
	for _, k := range known {
		getRefuses(t, k.want[1:])
		getRefuses(t, k.want[:47])
		getRefuses(t, k.want+"\x00")
		getRefuses(t, k.want+k.want)
	}
	for _, n := range []int{256 + 48, api.MaxFrame, api.MaxText, 1<<16 + 48} {
		getRefuses(t, mixed(n))
	}
}

// P7.1: what was put comes back, and any 48 bytes come back as they stood.
func TestThereAndBack(t *testing.T) {
	chance := rand.New(rand.NewChaCha8([32]byte{7}))
	for range 2000 {
		ns := make([]int, 12)
		for i := range ns {
			ns[i] = int(chance.Uint32() >> chance.IntN(33))
		}
		s, e := Put(ns...)
		if e != api.OK {
			t.Fatalf("Put(%v): %d", ns, e)
		}
		getGives(t, ns, s)
	}
	bytes := make([]byte, 48)
	for range 2000 {
		for i := range bytes {
			bytes[i] = byte(chance.IntN(256))
		}
		ns, e := Get(string(bytes))
		if e != api.OK {
			t.Fatalf("Get(%q): %d", bytes, e)
		}
		putGives(t, string(bytes), ns...)
	}
}

// R4: what is handed in stays as it is, its spare room too.
func TestArgumentsStay(t *testing.T) {
	room := []int{1, 2, 3, 4, 5, 6, 7, 8, 9, 10, 11, 12, 13, 14}
	was := slices.Clone(room)
	for n := range room {
		Put(room[:n]...)
	}
	if !slices.Equal(room, was) {
		t.Errorf("handed in %v, left %v", was, room)
	}
}

// R4: one answer does not change with another.
func TestAnswersAreNew(t *testing.T) {
	k := known[3]
	got, _ := Get(k.want)
	again, _ := Get(k.want)
	clear(got[:cap(got)])
	if !slices.Equal(again, k.ns) {
		t.Errorf("one answer changes with another: %v", again)
	}
	getGives(t, k.ns, k.want)
}

// R5: calls at one time tell what calls one by one tell.
func TestAtOneTime(t *testing.T) {
	k := known[3]
	var all sync.WaitGroup
	for range 8 {
		all.Go(func() {
			for range 200 {
				if got, e := Put(k.ns...); got != k.want || e != api.OK {
					t.Errorf("Put tells something else beside other calls: %q, %d", got, e)
				}
				if got, e := Get(k.want); !slices.Equal(got, k.ns) || e != api.OK {
					t.Errorf("Get tells something else beside other calls: %v, %d", got, e)
				}
			}
		})
	}
	all.Wait()
}

func BenchmarkPutAndGet(b *testing.B) {
	b.SetBytes(48)
	for b.Loop() {
		s, _ := Put(known[3].ns...)
		Get(s)
	}
}
