package opts

import (
	"math"
	"math/rand/v2"
	"slices"
	"strconv"
	"strings"
	"sync"
	"testing"
	"unsafe"

	"withy/api"
)

// known are options and how they stand, written out by hand.
var known = []struct {
	os   []api.Opt
	want string
}{
	{nil, ""},
	{[]api.Opt{{}}, "\x00\x02"},
	{[]api.Opt{{Kind: 255}}, "\xff\x02"},
	{[]api.Opt{{Kind: api.OptShort}}, "\x12\x02"},
	{[]api.Opt{{Kind: api.OptMru, Data: "\x05\xdc"}}, "\x01\x04\x05\xdc"},
	{[]api.Opt{{Kind: api.OptMagic, Data: "\x00\x00\x00\x00"}}, "\x05\x06\x00\x00\x00\x00"},
	{
		[]api.Opt{{Kind: api.OptMrru, Data: "\x05\xdc"}, {Kind: api.OptShort}, {Kind: api.OptDisc, Data: "\x01withy"}},
		"\x11\x04\x05\xdc\x12\x02\x13\x08\x01withy",
	},
	{[]api.Opt{{Kind: 1}, {Kind: 1}, {Kind: 0, Data: "\x02"}}, "\x01\x02\x01\x02\x00\x03\x02"},
	{[]api.Opt{{Kind: 7, Data: strings.Repeat("x", 253)}, {Kind: 2}}, "\x07\xff" + strings.Repeat("x", 253) + "\x02\x02"},
}

// ofSize gives options that come to size bytes, two or more, of as much data
// as may be, and leaves no single byte for the last one.
func ofSize(size int) []api.Opt {
	var os []api.Opt
	for size > 0 {
		n := min(size, head+api.MaxData)
		if size-n == 1 {
			n--
		}
		os = append(os, api.Opt{Kind: n & 255, Data: mixed(n - head)})
		size -= n
	}
	return os
}

// mixed gives n bytes of many values.
func mixed(n int) string {
	b := make([]byte, n)
	rand.NewChaCha8([32]byte{byte(n), byte(n >> 8)}).Read(b)
	return string(b)
}

// putRefuses holds Put to one error, and to no text beside it.
func putRefuses(t *testing.T, want api.Errno, os ...api.Opt) {
	t.Helper()
	if got, e := Put(os...); got != "" || e != want {
		t.Errorf("Put(%d options, %.60v) = %.20q, %d, want %d", len(os), os, got, e, want)
	}
}

// getRefuses holds Get to one error, and to no options beside it.
func getRefuses(t *testing.T, want api.Errno, s string) {
	t.Helper()
	if got, e := Get(s); len(got) != 0 || e != want {
		t.Errorf("Get(%d bytes, %.40q) = %.60v, %d, want %d", len(s), s, got, e, want)
	}
}

// P4.1: of each its kind, its length, its data.
func TestPutKnown(t *testing.T) {
	for _, c := range known {
		if got, e := Put(c.os...); got != c.want || e != api.OK {
			t.Errorf("Put(%v) = %q, %d, want %q", c.os, got, e, c.want)
		}
	}
	if got, e := Put([]api.Opt{}...); got != "" || e != api.OK {
		t.Errorf("Put of an empty list = %q, %d", got, e)
	}
}

// P4.1: each kind of one byte goes; those beyond do not, wherever they stand
// and whatever their low bits are.
func TestPutKind(t *testing.T) {
	good := api.Opt{Kind: 3, Data: "good"}
	for kind := range 256 {
		want := string([]byte{byte(kind), 3, 'x'})
		if got, e := Put(api.Opt{Kind: kind, Data: "x"}); got != want || e != api.OK {
			t.Errorf("Put(kind %d) = %q, %d", kind, got, e)
		}
	}
	for _, kind := range []int{-1, -255, -256, 256, 257, 1 << 16, 1<<32 | 1, math.MaxInt, math.MinInt} {
		bad := api.Opt{Kind: kind}
		putRefuses(t, api.ErrOptsForm, bad)
		putRefuses(t, api.ErrOptsForm, good, bad)
		putRefuses(t, api.ErrOptsForm, bad, good)
		putRefuses(t, api.ErrOptsForm, good, bad, good)
	}
}

// P4.1: each size of data up to MaxData goes, with two more as its length; one
// more does not, wherever it stands.
func TestPutData(t *testing.T) {
	for n := range api.MaxData + 1 {
		data := mixed(n)
		want := string([]byte{9, byte(n + 2)}) + data
		if got, e := Put(api.Opt{Kind: 9, Data: data}); got != want || e != api.OK {
			t.Errorf("Put(%d bytes of data) = %.20q, %d", n, got, e)
		}
	}
	good := api.Opt{Kind: 3}
	for _, n := range []int{254, 255, 256, 257, 300, api.MaxFrame, api.MaxText} {
		bad := api.Opt{Kind: 9, Data: mixed(n)}
		putRefuses(t, api.ErrOptsLong, bad)
		putRefuses(t, api.ErrOptsLong, good, bad)
		putRefuses(t, api.ErrOptsLong, bad, good)
	}
}

// P4.1: MaxFrame bytes in all go, one more does not.
func TestPutAll(t *testing.T) {
	for _, size := range []int{2, 255, 257, 1500, api.MaxFrame - 1, api.MaxFrame} {
		if got, e := Put(ofSize(size)...); len(got) != size || e != api.OK {
			t.Errorf("Put(%d bytes in all) = %d bytes, %d", size, len(got), e)
		}
	}
	for _, size := range []int{api.MaxFrame + 1, api.MaxFrame + 2, 2 * api.MaxFrame, api.MaxText} {
		putRefuses(t, api.ErrOptsLong, ofSize(size)...)
	}
	none := make([]api.Opt, 1025)
	if got, e := Put(none[:1024]...); got != strings.Repeat("\x00\x02", 1024) || e != api.OK {
		t.Errorf("Put(1024 options of nothing) = %d bytes, %d", len(got), e)
	}
	putRefuses(t, api.ErrOptsLong, none...)
	putRefuses(t, api.ErrOptsLong, make([]api.Opt, api.MaxText)...)
}

// P4.1, R6: a bad kind is told ahead of a size, even one that stands first.
func TestPutOrder(t *testing.T) {
	long := api.Opt{Kind: 1, Data: mixed(api.MaxData + 1)}
	bad := api.Opt{Kind: 256}
	putRefuses(t, api.ErrOptsForm, long, bad)
	putRefuses(t, api.ErrOptsForm, bad, long)
	putRefuses(t, api.ErrOptsForm, api.Opt{Kind: -1, Data: long.Data})
	putRefuses(t, api.ErrOptsForm, append(make([]api.Opt, 1025), bad)...)
	putRefuses(t, api.ErrOptsForm, append(ofSize(api.MaxFrame+1), bad)...)
}

// P4.1: the options that stand in a text.
func TestGetKnown(t *testing.T) {
	for _, c := range known {
		if got, e := Get(c.want); !slices.Equal(got, c.os) || e != api.OK {
			t.Errorf("Get(%q) = %v, %d, want %v", c.want, got, e, c.os)
		}
	}
}

// P4.1: each length against each number of bytes that stand, alone and behind
// a good option: below two or beyond the end it is refused.
func TestGetLength(t *testing.T) {
	for length := range 256 {
		for _, ahead := range []string{"", "\x03\x04ab"} {
			short := string([]byte{8, byte(length)})
			whole := short + mixed(max(length-2, 0))
			if length < 2 {
				getRefuses(t, api.ErrOptsForm, ahead+short)
				getRefuses(t, api.ErrOptsForm, ahead+short+"\x01\x02")
				continue
			}
			got, e := Get(ahead + whole)
			if e != api.OK || len(got) == 0 || got[len(got)-1] != (api.Opt{Kind: 8, Data: whole[2:]}) {
				t.Errorf("Get(length %d) = %.60v, %d", length, got, e)
			}
			if length > 2 {
				getRefuses(t, api.ErrOptsForm, ahead+whole[:length-1])
				getRefuses(t, api.ErrOptsForm, ahead+short)
			}
		}
	}
}

// P4.1: a kind alone is refused, behind good options too.
func TestGetKindAlone(t *testing.T) {
	for kind := range 256 {
		alone := string([]byte{byte(kind)})
		getRefuses(t, api.ErrOptsForm, alone)
		getRefuses(t, api.ErrOptsForm, "\x01\x02"+alone)
		getRefuses(t, api.ErrOptsForm, "\x01\x04ab\x02\x03c"+alone)
	}
}

// P4.1, R6: MaxFrame bytes come, one more is told ahead of what it holds.
func TestGetLong(t *testing.T) {
	for _, size := range []int{api.MaxFrame - 1, api.MaxFrame} {
		want := ofSize(size)
		s, _ := Put(want...)
		if got, e := Get(s); !slices.Equal(got, want) || e != api.OK {
			t.Errorf("Get(%d bytes) = %d options, %d", size, len(got), e)
		}
	}
	getRefuses(t, api.ErrOptsForm, strings.Repeat("\x01\x02", 1023)+"\x01\x03")
	getRefuses(t, api.ErrOptsForm, strings.Repeat("\x00", api.MaxFrame))
	getRefuses(t, api.ErrOptsLong, strings.Repeat("\x01\x02", 1023)+"\x01\x03x")
	getRefuses(t, api.ErrOptsLong, strings.Repeat("\x01\x02", 1025))
	getRefuses(t, api.ErrOptsLong, strings.Repeat("\x00", api.MaxFrame+1))
	getRefuses(t, api.ErrOptsLong, mixed(api.MaxText))
}

// P4.1: the place of the first one of a kind, among none, one and several.
func TestFind(t *testing.T) {
	os := []api.Opt{{Kind: 5}, {Kind: 1, Data: "\x05"}, {Kind: 5, Data: "more"}, {Kind: 0}, {Kind: 300}, {Kind: -1}, {Kind: -1}}
	for kind, want := range map[int]int{5: 0, 1: 1, 0: 3, 300: 4, -1: 5, 2: -1, 44: -1, 255: -1, 256: -1, math.MaxInt: -1, math.MinInt: -1} {
		if got := Find(kind, os...); got != want {
			t.Errorf("Find(%d) = %d, want %d", kind, got, want)
		}
	}
	for _, kind := range []int{0, 1, -1} {
		if got := Find(kind); got != -1 {
			t.Errorf("Find(%d) among none = %d", kind, got)
		}
		if got := Find(kind, []api.Opt{}...); got != -1 {
			t.Errorf("Find(%d) among an empty list = %d", kind, got)
		}
	}
	many := append(make([]api.Opt, api.MaxText), api.Opt{Kind: 9})
	if got := Find(9, many...); got != api.MaxText {
		t.Errorf("Find at the end of many = %d", got)
	}
}

// P4.2: what was put comes back.
func TestGetOfPut(t *testing.T) {
	chance := rand.New(rand.NewChaCha8([32]byte{4}))
	for range 2000 {
		want := make([]api.Opt, chance.IntN(8))
		for i := range want {
			want[i] = api.Opt{Kind: chance.IntN(256), Data: mixed(chance.IntN(api.MaxData + 1))}
		}
		s, e := Put(want...)
		if e != api.OK {
			t.Fatalf("Put(%.60v): %d", want, e)
		}
		if got, e := Get(s); !slices.Equal(got, want) || e != api.OK {
			t.Fatalf("Get(Put(%.60v)) = %.60v, %d", want, got, e)
		}
	}
}

// P4.2, R1: any bytes are either refused or come back as they stood.
func TestPutOfGet(t *testing.T) {
	taken := 0
	for n := range 3000 {
		s := mixed(n % 300)
		if n >= 300 {
			s = string([]byte{byte(n), byte(n%7 + 2)}) + mixed(n%5)
		}
		os, e := Get(s)
		if e != api.OK {
			continue
		}
		taken++
		if x, e := Put(os...); x != s || e != api.OK {
			t.Errorf("Put(Get(%q)) = %q, %d", s, x, e)
		}
	}
	if taken < 100 {
		t.Errorf("only %d texts were taken", taken)
	}
}

// R4: what is handed in stays as it is, its spare room too.
func TestArgumentsStay(t *testing.T) {
	room := []api.Opt{{Kind: 1, Data: "a"}, {Kind: 2, Data: "b"}, {Kind: 3, Data: "c"}, {Kind: 4, Data: "d"}}
	was := slices.Clone(room)
	Put(room[:2]...)
	Find(2, room[:2]...)
	if !slices.Equal(room, was) {
		t.Errorf("handed in %v, left %v", was, room)
	}
}

// R4: what is got shares no memory with what it was got of, nor with another
// answer; what is put shares none with its data.
func TestAnswersAreNew(t *testing.T) {
	s := "\x01\x06abcd\x02\x06efgh"
	got, _ := Get(s)
	again, _ := Get(s)
	for i, o := range got {
		for _, other := range []string{s, again[i].Data, got[1-i].Data} {
			if overlap(o.Data, other) {
				t.Errorf("the data of option %d shares memory with %q", i, other)
			}
		}
	}
	got[0] = api.Opt{Kind: 9}
	if again[0] != (api.Opt{Kind: 1, Data: "abcd"}) {
		t.Errorf("one answer changes with another: %v", again)
	}
	x, _ := Put(again...)
	if overlap(again[0].Data, x) || overlap(again[1].Data, x) {
		t.Errorf("the text put shares memory with the data")
	}
}

// overlap tells whether a begins within the memory of b.
func overlap(a, b string) bool {
	at, begin := uintptr(unsafe.Pointer(unsafe.StringData(a))), uintptr(unsafe.Pointer(unsafe.StringData(b)))
	return begin <= at && at < begin+uintptr(len(b))
}

// R5: calls at one time tell what calls one by one tell.
func TestAtOneTime(t *testing.T) {
	os := ofSize(api.MaxFrame)
	want, _ := Put(os...)
	var all sync.WaitGroup
	for range 8 {
		all.Go(func() {
			for range 200 {
				if got, e := Put(os...); got != want || e != api.OK {
					t.Errorf("Put tells something else beside other calls: %d", e)
				}
				if got, e := Get(want); !slices.Equal(got, os) || e != api.OK {
					t.Errorf("Get tells something else beside other calls: %d", e)
				}
				if got := Find(os[0].Kind, os...); got != 0 {
					t.Errorf("Find tells something else beside other calls: %d", got)
				}
			}
		})
	}
	all.Wait()
}

func BenchmarkPutAndGet(b *testing.B) {
	for _, n := range []int{2, 64, api.MaxFrame} {
		os := ofSize(n)
		b.Run(strconv.Itoa(n), func(b *testing.B) {
			b.SetBytes(int64(n))
			for b.Loop() {
				x, _ := Put(os...)
				Get(x)
			}
		})
	}
}
