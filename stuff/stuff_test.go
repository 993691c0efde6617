package stuff

import (
	"math"
	"slices"
	"strconv"
	"strings"
	"sync"
	"testing"
	"unsafe"

	"withy/api"
)

// maps are those of no byte, of all, of one, of some, and ones with more bits
// than a map has.
func maps() []int {
	list := []int{
		0, -1, math.MaxUint32, math.MaxInt, math.MinInt, math.MinInt + 1,
		0x000a0000, 0x55555555, 1 << 32, 1<<32 | 1, -1 << 32, -1<<32 | 2, -2,
	}
	for b := range 32 {
		list = append(list, 1<<b)
	}
	return list
}

// texts are each byte alone, ones of bytes that may not stand, and mixed ones.
func texts() []string {
	list := []string{
		"", "withy", "~", "}", "~~", "}}", "}~", "~}", "}^", "}]", "^", "]",
		"gr\u00fc\u00df", "\x80\xc0\xff\xfe\xfd", "\x00}\x00~", "\x11\x13\x1f\x20",
	}
	for b := range 256 {
		list = append(list, string([]byte{byte(b)}))
	}
	for _, n := range []int{2, 3, 31, 32, 33, 255, 256, api.MaxFrame} {
		list = append(list, strings.Repeat("~", n), strings.Repeat("}", n), mixed(n))
	}
	return list
}

// mixed gives n bytes of many values, one in four of them a flag or a mark.
func mixed(n int) string {
	b := make([]byte, n)
	state := uint32(n) + 1
	for i := range b {
		state = state*1664525 + 1013904223
		b[i] = byte(state >> 24)
		if state>>10&3 == 0 {
			b[i] = "~}"[state>>12&1]
		}
	}
	return string(b)
}

// byReplacing puts by another way than the package: text by text, the marks
// first, so that none that it makes itself is marked again.
func byReplacing(s string, map32 int) string {
	s = strings.ReplaceAll(s, "}", "}]")
	s = strings.ReplaceAll(s, "~", "}^")
	for b := range 32 {
		if uint64(int64(map32))&(1<<b) != 0 {
			s = strings.ReplaceAll(s, string(rune(b)), "}"+string(rune(b+32)))
		}
	}
	return s
}

// P2.1: ordinary bytes stand as they are, flags and marks never do, and those
// below 32 only where their bit of the map is 0.
func TestPutKnown(t *testing.T) {
	for _, c := range []struct {
		s     string
		map32 int
		want  string
	}{
		{"", 0, ""},
		{"", -1, ""},
		{"withy", -1, "withy"},
		{"a~b}c", 0, "a}^b}]c"},
		{"}~", 0, "}]}^"},
		{"}}", 0, "}]}]"},
		{"^]", -1, "^]"},
		{"\x00\x1f\x20", 0, "\x00\x1f\x20"},
		{"\x00\x1f\x20", -1, "} }?\x20"},
		{"\x00\x01\x02", 2, "\x00}!\x02"},
		{"\x11\x12\x13", 0x000a0000, "}1\x12}3"},
		{"\x00\x1f", 1 << 31, "\x00}?"},
		{"\x00\x1f", 1 << 32, "\x00\x1f"},
		{"\x00\x1f", 1<<32 | 1, "} \x1f"},
		{"\x00\x1f", -2, "\x00}?"},
		{"\x00\x1f", -1 << 32, "\x00\x1f"},
		{"\x80\x9f\xfd\xfe\xff", -1, "\x80\x9f\xfd\xfe\xff"},
	} {
		if got := Put(c.s, c.map32); got != c.want {
			t.Errorf("Put(%q, %#x) = %q, want %q", c.s, c.map32, got, c.want)
		}
	}
}

// P2.1: each byte beside each bit of a map.
func TestPutEachByteAndBit(t *testing.T) {
	for b := range 256 {
		for bit := range 64 {
			one := string([]byte{byte(b)})
			want := one
			if b == 0x7d || b == 0x7e || b == bit && bit < 32 {
				want = string([]byte{0x7d, byte(b) ^ 0x20})
			}
			if got := Put(one, 1<<bit); got != want {
				t.Errorf("Put(%q, 1<<%d) = %q, want %q", one, bit, got, want)
			}
		}
	}
}

// P2.1: any bytes by any map.
func TestPutByReplacing(t *testing.T) {
	for _, s := range texts() {
		for _, m := range maps() {
			if got, want := Put(s, m), byReplacing(s, m); got != want {
				t.Fatalf("Put(%.20q, %#x) = %.40q, want %.40q", s, m, got, want)
			}
		}
	}
}

// P2.1: a mark turns the byte behind it, whatever that is; others stand as
// they are, those too that a map would have marked.
func TestGetKnown(t *testing.T) {
	for s, want := range map[string]string{
		"":                 "",
		"withy":            "withy",
		"a}^b}]c":          "a~b}c",
		"}}":               "]",
		"}}}}":             "]]",
		"}}]":              "]]",
		"}]}}":             "}]",
		"\x00\x11\x1f":     "\x00\x11\x1f",
		"} }?":             "\x00\x1f",
		"}a}A}\x00}\xff":   "Aa\x20\xdf",
		"\x80\xfd\xfe\xff": "\x80\xfd\xfe\xff",
	} {
		if got, e := Get(s); got != want || e != api.OK {
			t.Errorf("Get(%q) = %q, %d, want %q", s, got, e, want)
		}
	}
}

// P2.1: each byte alone, and behind a mark.
func TestGetEachByte(t *testing.T) {
	for b := range 256 {
		alone, marked := string([]byte{byte(b)}), string([]byte{0x7d, byte(b)})
		wantAlone, wantMarked := alone, string([]byte{byte(b) ^ 0x20})
		var errAlone, errMarked api.Errno
		switch b {
		case 0x7d:
			wantAlone, errAlone = "", api.ErrStuffEnd
		case 0x7e:
			wantAlone, errAlone = "", api.ErrStuffFlag
			wantMarked, errMarked = "", api.ErrStuffFlag
		}
		if got, e := Get(alone); got != wantAlone || e != errAlone {
			t.Errorf("Get(%q) = %q, %d", alone, got, e)
		}
		if got, e := Get(marked); got != wantMarked || e != errMarked {
			t.Errorf("Get(%q) = %q, %d", marked, got, e)
		}
	}
}

// P2.1: a flag anywhere is told ahead of a mark at the end, and a mark at the
// end is none where it is marked itself.
func TestGetWrong(t *testing.T) {
	for s, want := range map[string]api.Errno{
		"~":       api.ErrStuffFlag,
		"~abc":    api.ErrStuffFlag,
		"abc~":    api.ErrStuffFlag,
		"a~c":     api.ErrStuffFlag,
		"}~":      api.ErrStuffFlag,
		"}}~":     api.ErrStuffFlag,
		"a}~b":    api.ErrStuffFlag,
		"~}":      api.ErrStuffFlag,
		"}~}":     api.ErrStuffFlag,
		"~a}":     api.ErrStuffFlag,
		"}":       api.ErrStuffEnd,
		"abc}":    api.ErrStuffEnd,
		"}}}":     api.ErrStuffEnd,
		"}]}":     api.ErrStuffEnd,
		"}^a}":    api.ErrStuffEnd,
		"}}}}}":   api.ErrStuffEnd,
		"a}}b}}}": api.ErrStuffEnd,
	} {
		if got, e := Get(s); got != "" || e != want {
			t.Errorf("Get(%q) = %q, %d, want %d", s, got, e, want)
		}
	}
}

// P2.2: frames stand between two flags, the empty ones left out; the rest
// stands behind the last flag.
func TestSplitKnown(t *testing.T) {
	for _, c := range []struct {
		s      string
		frames []string
		rest   string
	}{
		{"", nil, ""},
		{"a", nil, "a"},
		{"}^", nil, "}^"},
		{"~", nil, ""},
		{"~~", nil, ""},
		{"~~~~", nil, ""},
		{"~a", nil, "a"},
		{"a~", nil, ""},
		{"a~b", nil, "b"},
		{"a~~b", nil, "b"},
		{"~a~", []string{"a"}, ""},
		{"x~a~", []string{"a"}, ""},
		{"~a~b", []string{"a"}, "b"},
		{"~a~b~", []string{"a", "b"}, ""},
		{"~b~a~b~~a~", []string{"b", "a", "b", "a"}, ""},
		{"~~a~~~b~~", []string{"a", "b"}, ""},
		{"x~~a~~~b~~c", []string{"a", "b"}, "c"},
		{"~}~\x00}}~\xff", []string{"}", "\x00}}"}, "\xff"},
	} {
		frames, rest := Split(c.s)
		if !slices.Equal(frames, c.frames) || rest != c.rest {
			t.Errorf("Split(%q) = %q, %q, want %q, %q", c.s, frames, rest, c.frames, c.rest)
		}
	}
}

// P2.2: the same of any bytes, by the library's cuts: the first piece is no
// frame, the last one is the rest.
func TestSplitByCuts(t *testing.T) {
	for _, s := range texts() {
		pieces := strings.Split(s, "~")
		last := len(pieces) - 1
		var want []string
		for i := 1; i < last; i++ {
			if pieces[i] != "" {
				want = append(want, pieces[i])
			}
		}
		if frames, rest := Split(s); !slices.Equal(frames, want) || rest != pieces[last] {
			t.Errorf("Split(%.20q): %d frames, want %d; rest %.20q", s, len(frames), len(want), rest)
		}
	}
}

// P2.3: what was put comes back, by whatever map, and has no flag in it, nor
// a byte that its map tells of.
func TestGetOfPut(t *testing.T) {
	for _, s := range texts() {
		for _, m := range maps() {
			x := Put(s, m)
			if got, e := Get(x); got != s || e != api.OK {
				t.Fatalf("Get(Put(%.20q, %#x)) = %.20q, %d", s, m, got, e)
			}
			for i := range len(x) {
				if b := x[i]; b == 0x7e || b < 32 && uint64(int64(m))>>b&1 == 1 {
					t.Fatalf("Put(%.20q, %#x) holds %#x", s, m, b)
				}
			}
		}
	}
}

// P2.3: what was put between flags comes back frame by frame.
func TestSplitOfPut(t *testing.T) {
	list := slices.DeleteFunc(texts(), func(s string) bool { return s == "" })
	line := "noise~"
	for _, s := range list {
		line += Put(s, -1) + "~"
	}
	frames, rest := Split(line + "cut off")
	if len(frames) != len(list) || rest != "cut off" {
		t.Fatalf("%d frames of %d, rest %q", len(frames), len(list), rest)
	}
	for i, f := range frames {
		if got, e := Get(f); got != list[i] || e != api.OK {
			t.Errorf("frame %d: %.20q, %d, want %.20q", i, got, e, list[i])
		}
	}
}

// The longest texts, and those that become longest.
func TestLong(t *testing.T) {
	for _, s := range []string{
		strings.Repeat("~", api.MaxText), strings.Repeat("}", api.MaxText),
		strings.Repeat("\x00", api.MaxText), mixed(api.MaxText),
	} {
		x := Put(s, -1)
		if x != byReplacing(s, -1) {
			t.Errorf("Put of %.4q...: %d bytes", s, len(x))
		}
		if got, e := Get(x); got != s || e != api.OK {
			t.Errorf("Get of %.4q...: %d bytes, %d", x, len(got), e)
		}
	}
	frames, rest := Split(strings.Repeat("~a", api.MaxText/2))
	if len(frames) != api.MaxText/2-1 || rest != "a" {
		t.Errorf("%d frames, rest %q", len(frames), rest)
	}
	frames, rest = Split(strings.Repeat("~", api.MaxText))
	if len(frames) != 0 || rest != "" {
		t.Errorf("%d frames, rest %q", len(frames), rest)
	}
}

// R4: answers share memory neither with what was handed in nor with others.
func TestAnswersAreNew(t *testing.T) {
	s := "ahead~frame~frame~rest"
	frames, rest := Split(s)
	again, restAgain := Split(s)
	pieces := slices.Concat(frames, again, []string{rest, restAgain, s})
	_, whole := Split("plain")
	got, _ := Get("plain")
	pieces = append(pieces, "plain", whole, got, Put("plain", 0), Put("plain", 0))
	for i, a := range pieces {
		for _, b := range pieces[i+1:] {
			if overlap(a, b) {
				t.Errorf("%q and %q share memory", a, b)
			}
		}
	}
}

// overlap tells whether two texts that are not empty lie in the same memory.
func overlap(a, b string) bool {
	beginA, beginB := uintptr(unsafe.Pointer(unsafe.StringData(a))), uintptr(unsafe.Pointer(unsafe.StringData(b)))
	return beginA < beginB+uintptr(len(b)) && beginB < beginA+uintptr(len(a))
}

// R5: calls at one time tell what calls one by one tell.
func TestAtOneTime(t *testing.T) {
	s := mixed(api.MaxFrame)
	want := Put(s, -1)
	frames, rest := Split(s)
	var all sync.WaitGroup
	for range 8 {
		all.Go(func() {
			for range 50 {
				if got := Put(s, -1); got != want {
					t.Error("Put tells something else beside other calls")
				}
				if got, e := Get(want); got != s || e != api.OK {
					t.Errorf("Get tells something else beside other calls: %d", e)
				}
				if f, r := Split(s); !slices.Equal(f, frames) || r != rest {
					t.Error("Split tells something else beside other calls")
				}
			}
		})
	}
	all.Wait()
}

func BenchmarkPutAndGet(b *testing.B) {
	for _, n := range []int{64, api.MaxPacket, api.MaxText} {
		s := mixed(n)
		b.Run(strconv.Itoa(n), func(b *testing.B) {
			b.SetBytes(int64(n))
			for b.Loop() {
				Get(Put(s, -1))
			}
		})
	}
}
