package mphead

import (
	"math"
	"math/rand/v2"
	"strconv"
	"strings"
	"sync"
	"testing"
	"unsafe"

	"withy/api"
)

const (
	mostLong  = 1<<24 - 1
	mostShort = 1<<12 - 1
)

// known are fragments and how they stand, written out by hand.
var known = []struct {
	f     api.Frag
	short bool
	want  string
}{
	{api.Frag{}, false, "\x00\x00\x00\x00"},
	{api.Frag{}, true, "\x00\x00"},
	{api.Frag{Begin: true}, false, "\x80\x00\x00\x00"},
	{api.Frag{Begin: true}, true, "\x80\x00"},
	{api.Frag{End: true}, false, "\x40\x00\x00\x00"},
	{api.Frag{End: true}, true, "\x40\x00"},
	{api.Frag{Begin: true, End: true, Seq: 1, Data: "a"}, false, "\xc0\x00\x00\x01a"},
	{api.Frag{Begin: true, End: true, Seq: 1, Data: "a"}, true, "\xc0\x01a"},
	{api.Frag{Seq: 0x010203, Data: "withy"}, false, "\x00\x01\x02\x03withy"},
	{api.Frag{Seq: 0x102, Data: "withy"}, true, "\x01\x02withy"},
	{api.Frag{Begin: true, Seq: 0xabcdef, Data: "\x00~}"}, false, "\x80\xab\xcd\xef\x00~}"},
	{api.Frag{End: true, Seq: 0xabc, Data: "\x00~}"}, true, "\x4a\xbc\x00~}"},
	{api.Frag{End: true, Seq: mostShort + 1}, false, "\x40\x00\x10\x00"},
	{api.Frag{End: true, Seq: mostLong, Data: "\xff"}, false, "\x40\xff\xff\xff\xff"},
	{api.Frag{Begin: true, End: true, Seq: mostShort, Data: "\xff"}, true, "\xcf\xff\xff"},
}

// outside are numbers that no head holds, some of them with low bits that
// would.
var outside = []int{
	-1, -2, -mostShort - 1, -mostLong, -mostLong - 1, -mostLong - 2, math.MinInt32, math.MinInt, math.MinInt + 1,
	mostLong + 1, mostLong + 2, 1<<25 - 1, 1 << 30, 1 << 31, 1<<32 - 1, 1 << 32, 1<<32 | 1, 1<<40 | 7, math.MaxInt,
}

// tooHigh are numbers that a long head holds and a short one does not.
var tooHigh = []int{mostShort + 1, mostShort + 2, 1 << 13, 0x3fff, 1 << 14, 1 << 15, 0xffff, 1 << 16, 1<<16 | 1, mostLong}

// size gives how many bytes a head has.
func size(short bool) int {
	if short {
		return 2
	}
	return 4
}

// most gives the greatest number of a head.
func most(short bool) int {
	if short {
		return mostShort
	}
	return mostLong
}

// mixed gives n bytes of many values.
func mixed(n int) string {
	b := make([]byte, n)
	rand.NewChaCha8([32]byte{byte(n), byte(n >> 8)}).Read(b)
	return string(b)
}

// each calls do with both heads, and with each of the marks' four ways.
func each(do func(f api.Frag, short bool)) {
	for n := range 8 {
		do(api.Frag{Begin: n&1 != 0, End: n&2 != 0}, n&4 != 0)
	}
}

// putRefuses holds Put to its error, and to no text beside it.
func putRefuses(t *testing.T, f api.Frag, short bool) {
	t.Helper()
	if got, e := Put(f, short); got != "" || e != api.ErrMpRange {
		t.Errorf("Put(%t, %t, %d, %d bytes; %t) = %.20q, %d, want %d", f.Begin, f.End, f.Seq, len(f.Data), short, got, e, api.ErrMpRange)
	}
}

// putGives holds Put to one text.
func putGives(t *testing.T, want string, f api.Frag, short bool) {
	t.Helper()
	if got, e := Put(f, short); got != want || e != api.OK {
		t.Errorf("Put(%.60v, %t) = %.20q, %d, want %.20q", f, short, got, e, want)
	}
}

// getRefuses holds Get to one error, and to no fragment beside it.
func getRefuses(t *testing.T, want api.Errno, s string, short bool) {
	t.Helper()
	if got, e := Get(s, short); got != (api.Frag{}) || e != want {
		t.Errorf("Get(%d bytes, %.20q, %t) = %.60v, %d, want %d", len(s), s, short, got, e, want)
	}
}

// getGives holds Get to one fragment.
func getGives(t *testing.T, want api.Frag, s string, short bool) {
	t.Helper()
	if got, e := Get(s, short); got != want || e != api.OK {
		t.Errorf("Get(%d bytes, %.20q, %t) = %.60v, %d, want %.60v", len(s), s, short, got, e, want)
	}
}

// P8.1: the marks, the number with its high byte first, the data, both ways.
func TestKnown(t *testing.T) {
	for _, k := range known {
		putGives(t, k.want, k.f, k.short)
		getGives(t, k.f, k.want, k.short)
	}
}

// P8.1: each number of a short head, with each of the marks' ways.
func TestEachShort(t *testing.T) {
	for first := range 256 {
		for second := range 256 {
			s := string([]byte{byte(first), byte(second)}) + "data"
			if first&0x30 != 0 {
				getRefuses(t, api.ErrMpForm, s, true)
				continue
			}
			f := api.Frag{Begin: first >= 128, End: first&64 != 0, Seq: first&15*256 + second, Data: "data"}
			putGives(t, s, f, true)
			getGives(t, f, s, true)
		}
	}
}

// P8.1: each value of each byte of a long head, alone and with all other bits
// of the number.
func TestEachLong(t *testing.T) {
	for first := range 256 {
		for _, seq := range []int{0, 1, 0x123456, mostLong} {
			s := string([]byte{byte(first), byte(seq >> 16), byte(seq >> 8), byte(seq)})
			if first&0x3f != 0 {
				getRefuses(t, api.ErrMpForm, s, false)
				continue
			}
			f := api.Frag{Begin: first >= 128, End: first&64 != 0, Seq: seq}
			putGives(t, s, f, false)
			getGives(t, f, s, false)
		}
	}
	for place := 1; place < 4; place++ {
		for value := range 256 {
			for _, other := range []byte{0, 255} {
				s := []byte{0x80, other, other, other}
				s[place] = byte(value)
				f := api.Frag{Begin: true, Seq: int(s[1])<<16 + int(s[2])<<8 + int(s[3])}
				putGives(t, string(s), f, false)
				getGives(t, f, string(s), false)
			}
		}
	}
}

// P8.1: a number that the head does not hold is refused; those at the two ends
// go, and those between that a long head alone holds go there.
func TestPutRange(t *testing.T) {
	each(func(f api.Frag, short bool) {
		for _, f.Data = range []string{"", "withy", mixed(api.MaxFrame), mixed(api.MaxFrame + 1)} {
			for _, f.Seq = range outside {
				putRefuses(t, f, short)
			}
		}
		f.Data = "withy"
		for _, f.Seq = range []int{0, 1, most(short) - 1, most(short)} {
			if got, e := Put(f, short); len(got) != size(short)+5 || e != api.OK {
				t.Errorf("Put(%v, %t) = %q, %d", f, short, got, e)
			}
		}
		for _, f.Seq = range tooHigh {
			if short {
				putRefuses(t, f, true)
			} else if got, e := Put(f, false); len(got) != 9 || e != api.OK {
				t.Errorf("Put(%v, false) = %q, %d", f, got, e)
			}
		}
	})
}

// P8.1: each size of data up to MaxFrame goes and comes as it is, none too;
// the head does not count in it.
func TestData(t *testing.T) {
	each(func(f api.Frag, short bool) {
		f.Seq = most(short)
		head, _ := Put(f, short)
		for _, n := range []int{0, 1, 2, 3, 4, 5, 252, 253, 254, 255, 256, 257, 1500, 2042, 2043, 2044, 2045, 2046, 2047, api.MaxFrame} {
			f.Data = mixed(n)
			putGives(t, head+f.Data, f, short)
			getGives(t, f, head+f.Data, short)
		}
	})
}

// P8.1: more data than MaxFrame is refused both ways.
func TestTooMuchData(t *testing.T) {
	each(func(f api.Frag, short bool) {
		head, _ := Put(f, short)
		for _, n := range []int{1, 2, 3, 4, 5, api.MaxFrame, api.MaxText - api.MaxFrame} {
			f.Data = mixed(api.MaxFrame + n)
			putRefuses(t, f, short)
			getRefuses(t, api.ErrMpRange, head+f.Data, short)
		}
	})
}

// P8.1: fewer bytes than a head has are refused, whatever they are.
func TestGetShort(t *testing.T) {
	for _, short := range []bool{false, true} {
		getRefuses(t, api.ErrMpForm, "", short)
		for n := 1; n < size(short); n++ {
			for b := range 256 {
				getRefuses(t, api.ErrMpForm, strings.Repeat(string([]byte{byte(b)}), n), short)
				getRefuses(t, api.ErrMpForm, "\xc0\x00\x00"[:n-1]+string([]byte{byte(b)}), short)
			}
		}
		f := api.Frag{Begin: true, End: true, Seq: 7}
		s, _ := Put(f, short)
		getGives(t, f, s, short)
		getRefuses(t, api.ErrMpForm, s[:len(s)-1], short)
	}
}

// P8.1, R6: each spare bit alone is refused, and told ahead of too much data.
func TestGetSpareBits(t *testing.T) {
	for _, short := range []bool{false, true} {
		spare := []byte{0x01, 0x02, 0x04, 0x08, 0x10, 0x20, 0x3f}
		if short {
			spare = []byte{0x10, 0x20, 0x30}
		}
		for _, bits := range spare {
			for _, marks := range []byte{0, 0x40, 0x80, 0xc0} {
				begin := string([]byte{bits | marks})
				for _, n := range []int{size(short) - 1, size(short), 300, api.MaxFrame + 3, api.MaxFrame + 4, api.MaxText} {
					getRefuses(t, api.ErrMpForm, begin+strings.Repeat("\x00", n), short)
					getRefuses(t, api.ErrMpForm, begin+strings.Repeat("\xff", n), short)
				}
			}
		}
	}
}

// P8.2: what was put comes back, any marks, number and data.
func TestGetOfPut(t *testing.T) {
	chance := rand.New(rand.NewChaCha8([32]byte{8}))
	for n := range 4000 {
		short := n%2 == 0
		f := api.Frag{
			Begin: n&2 != 0,
			End:   n&4 != 0,
			Seq:   chance.IntN(most(short)+1) >> chance.IntN(24),
			Data:  mixed(chance.IntN(api.MaxFrame + 1)),
		}
		s, e := Put(f, short)
		if e != api.OK || len(s) != size(short)+len(f.Data) {
			t.Fatalf("Put(%.60v, %t) = %d bytes, %d", f, short, len(s), e)
		}
		getGives(t, f, s, short)
	}
}

// P8.2, R1: any bytes are either refused or come back as they stood.
func TestPutOfGet(t *testing.T) {
	taken := 0
	for n := range 6000 {
		short, s := n%2 == 0, mixed(n)
		if n >= 300 {
			s = string([]byte{byte(n>>1) & 0xcf}) + mixed(n%97)
		}
		f, e := Get(s, short)
		if e != api.OK {
			continue
		}
		taken++
		putGives(t, s, f, short)
	}
	if taken < 1000 {
		t.Errorf("only %d texts were taken", taken)
	}
}

// R4: what is put or got shares no memory with what it was made of, nor with
// another answer.
func TestAnswersAreNew(t *testing.T) {
	for _, short := range []bool{false, true} {
		s := "\x80\x00\x00\x00abcdefgh"
		got, _ := Get(s, short)
		again, _ := Get(s, short)
		x, _ := Put(got, short)
		y, _ := Put(got, short)
		pieces := []string{s, got.Data, again.Data, x, y}
		for i, a := range pieces {
			for _, b := range pieces[i+1:] {
				if overlap(a, b) {
					t.Errorf("%q and %q share memory", a, b)
				}
			}
		}
	}
}

// overlap tells whether two texts that are not empty lie in the same memory.
func overlap(a, b string) bool {
	beginA, beginB := uintptr(unsafe.Pointer(unsafe.StringData(a))), uintptr(unsafe.Pointer(unsafe.StringData(b)))
	return beginA < beginB+uintptr(len(b)) && beginB < beginA+uintptr(len(a))
}

// R5: calls at one time tell what calls one by one tell.
func TestAtOneTime(t *testing.T) {
	f := api.Frag{Begin: true, Seq: mostShort, Data: mixed(api.MaxFrame)}
	wantLong, _ := Put(f, false)
	wantShort, _ := Put(f, true)
	var all sync.WaitGroup
	for n := range 8 {
		short, want := n%2 == 0, wantLong
		if short {
			want = wantShort
		}
		all.Go(func() {
			for range 50 {
				if got, e := Put(f, short); got != want || e != api.OK {
					t.Errorf("Put tells something else beside other calls: %d", e)
				}
				if got, e := Get(want, short); got != f || e != api.OK {
					t.Errorf("Get tells something else beside other calls: %d", e)
				}
			}
		})
	}
	all.Wait()
}

func BenchmarkPutAndGet(b *testing.B) {
	for _, n := range []int{0, 64, api.MaxPacket, api.MaxFrame} {
		f := api.Frag{Begin: true, Seq: 7, Data: mixed(n)}
		b.Run(strconv.Itoa(n), func(b *testing.B) {
			b.SetBytes(int64(n))
			for b.Loop() {
				s, _ := Put(f, false)
				Get(s, false)
			}
		})
	}
}
