package frame

import (
	"math"
	"math/rand/v2"
	"strconv"
	"strings"
	"sync"
	"testing"
	"unsafe"

	"withy/api"
	"withy/fcs"
	"withy/stuff"
)

// known are frames summed and stuffed apart from this program; the sums of the
// last two hold a flag and a mark, that of the third one a byte below 32.
var known = []struct {
	f     api.Frame
	map32 int
	want  string
}{
	{api.Frame{Proto: 1}, 0, "~\xff\x03\x00\x01\xe1\xc7~"},
	{api.Frame{Proto: 0xfeff}, 0, "~\xff\x03\xfe\xff\x08?~"},
	{api.Frame{Proto: 0xfeff}, -1, "~\xff}#\xfe\xff}(?~"},
	{api.Frame{Proto: api.ProtoLcp}, 0, "~\xff\x03\xc0!I,~"},
	{api.Frame{Proto: api.ProtoLcp}, -1, "~\xff}#\xc0!I,~"},
	{api.Frame{Proto: 0x7c7d}, 0, "~\xff\x03|}]n'~"},
	{api.Frame{Proto: api.ProtoMp, Data: "withy"}, 0, "~\xff\x03\x00=withy\xcb\x96~"},
	{api.Frame{Proto: api.ProtoMp, Data: "a~b}c"}, 0, "~\xff\x03\x00=a}^b}]c-\x8a~"},
	{api.Frame{Proto: 33, Data: "\x00\x1f "}, 1 << 31, "~\xff\x03\x00!\x00}? \x1b\xaa~"},
	{api.Frame{Proto: 33, Data: "\x00\x1f "}, 1 << 32, "~\xff\x03\x00!\x00\x1f \x1b\xaa~"},
	{api.Frame{Proto: 33, Data: "\x11\x13"}, 0x000a0000, "~\xff\x03\x00!}1}3\xdd\xe0~"},
	{api.Frame{Proto: api.ProtoMp, Data: "&$"}, 0, "~\xff\x03\x00=&$}]}^~"},
	{api.Frame{Proto: api.ProtoMp, Data: "\x8d\xce"}, 0, "~\xff\x03\x00=\x8d\xce}^}]~"},
}

// protos are those that the layers speak, and the least and the greatest ones.
var protos = []int{
	1, 3, 33, api.ProtoMp, 0xff, 0x201, 0x7c7d, api.ProtoLcp, api.ProtoLqr,
	api.ProtoChap, api.ProtoBacp, api.ProtoBap, 0xfe01, 0xfeff,
}

// texts are short ones, each byte alone, ones of bytes that may not stand, and
// ones of any bytes up to the longest.
func texts() []string {
	list := []string{"", "withy", "~}", "}~", "\xff\x03", "\x00\x11\x13\x1f\x20", "gr\u00fc\u00df"}
	for b := range 256 {
		list = append(list, string([]byte{byte(b)}))
	}
	for _, n := range []int{2, 255, 256, api.MaxPacket, api.MaxFrame - 1, api.MaxFrame} {
		list = append(list, strings.Repeat("~", n), strings.Repeat("\x00", n), mixed(n))
	}
	return list
}

// mixed gives n bytes of many values.
func mixed(n int) string {
	b := make([]byte, n)
	rand.NewChaCha8([32]byte{byte(n), byte(n >> 8)}).Read(b)
	return string(b)
}

// between takes the flags off a frame.
func between(t *testing.T, x string) string {
	t.Helper()
	frames, rest := stuff.Split(x)
	if len(frames) != 1 || rest != "" || len(x) != len(frames[0])+2 {
		t.Fatalf("no frame between two flags: %.40q", x)
	}
	return frames[0]
}

// sealed gives a body with its good sum, stuffed: what Get is handed.
func sealed(body string) string {
	return stuff.Put(fcs.Put(body), -1)
}

// refuses holds Get to one error, and to no frame beside it.
func refuses(t *testing.T, s string, want api.Errno) {
	t.Helper()
	if got, e := Get(s); got != (api.Frame{}) || e != want {
		t.Errorf("Get(%d bytes, %.20q) = %d, %.20q, %d, want %d", len(s), s, got.Proto, got.Data, e, want)
	}
}

// P3.1: head, protocol and bytes, summed, then stuffed, then between flags.
func TestPutKnown(t *testing.T) {
	for _, c := range known {
		if got, e := Put(c.f, c.map32); got != c.want || e != api.OK {
			t.Errorf("Put(%v, %#x) = %q, %d, want %q", c.f, c.map32, got, e, c.want)
		}
	}
}

// P3.1: each number of two bytes, and those beyond them whose low bits look
// like a protocol's.
func TestPutProto(t *testing.T) {
	for n := range 1 << 16 {
		want := api.ErrFrameProto
		if high, low := n/256, n%256; high%2 == 0 && low%2 == 1 {
			want = api.OK
		}
		if got, e := Put(api.Frame{Proto: n}, 0); e != want || (got == "") != (e != api.OK) {
			t.Fatalf("Put(proto %#x) = %q, %d, want %d", n, got, e, want)
		}
	}
	for _, n := range []int{
		-1, -2, -255, -0xffff, -0x1ff, 1<<16 | 1, 1<<16 | api.ProtoLcp,
		1<<32 | 1, math.MaxInt, math.MinInt, math.MinInt + 1,
	} {
		if got, e := Put(api.Frame{Proto: n}, 0); got != "" || e != api.ErrFrameProto {
			t.Errorf("Put(proto %d) = %q, %d", n, got, e)
		}
	}
}

// P3.1: MaxFrame bytes go, one more does not; a bad protocol is told ahead of
// that.
func TestPutLong(t *testing.T) {
	long := strings.Repeat("~", api.MaxFrame+1)
	if got, e := Put(api.Frame{Proto: 1, Data: long[1:]}, 0); len(got) < 2*api.MaxFrame || e != api.OK {
		t.Errorf("Put(%d bytes) = %d bytes, %d", api.MaxFrame, len(got), e)
	}
	for _, c := range []struct {
		proto int
		data  string
		want  api.Errno
	}{
		{1, long, api.ErrFrameLong},
		{1, mixed(api.MaxText), api.ErrFrameLong},
		{2, long, api.ErrFrameProto},
		{0x101, long, api.ErrFrameProto},
		{0, long, api.ErrFrameProto},
		{-1, long, api.ErrFrameProto},
	} {
		if got, e := Put(api.Frame{Proto: c.proto, Data: c.data}, 0); got != "" || e != c.want {
			t.Errorf("Put(proto %d, %d bytes) = %d bytes, %d, want %d", c.proto, len(c.data), len(got), e, c.want)
		}
	}
}

// P3.2: what stands between the flags of the frames that are known.
func TestGetKnown(t *testing.T) {
	for _, c := range known {
		s := strings.Trim(c.want, "~")
		if got, e := Get(s); got != c.f || e != api.OK {
			t.Errorf("Get(%q) = %v, %d, want %v", s, got, e, c.f)
		}
	}
}

// P3.2: what can't be unstuffed is short, however long it is, and whatever
// else is wrong with it.
func TestGetStuffing(t *testing.T) {
	good := sealed(head + "\x00!withy")
	for _, s := range []string{
		"~", "}", "~" + good, good + "~", "~" + good + "~", good + "}",
		good[:6] + "~" + good[6:], good[:6] + "}~" + good[6:], strings.Repeat("~", api.MaxText),
		strings.Repeat("}", api.MaxText-1), sealed("\xfe\x03\x00\x22") + "}",
	} {
		refuses(t, s, api.ErrFrameShort)
	}
}

// P3.2: fewer than six bytes are short even with a good sum, and it is the
// bytes ahead of the stuffing that count.
func TestGetShort(t *testing.T) {
	for _, body := range []string{"", "\xff", head, head + "\x01", "\xfe\x04\x02"} {
		refuses(t, fcs.Put(body), api.ErrFrameShort)
		refuses(t, sealed(body), api.ErrFrameShort)
	}
	for n := range 6 {
		refuses(t, strings.Repeat("\x01", n), api.ErrFrameShort)
		refuses(t, strings.Repeat("}!", n), api.ErrFrameShort)
	}
	refuses(t, strings.Repeat("\x01", 6), api.ErrFrameFcs)
	refuses(t, strings.Repeat("}!", 6), api.ErrFrameFcs)
}

// P3.2: each bit counts, those of the head and the protocol too; a sum that is
// bad is told ahead of what it sums.
func TestGetSum(t *testing.T) {
	for _, data := range []string{"", "withy", "a~b}c", mixed(40)} {
		b := []byte(fcs.Put(head + "\xc0\x21" + data))
		for i := range 8 * len(b) {
			b[i/8] ^= 1 << (i % 8)
			refuses(t, stuff.Put(string(b), 0), api.ErrFrameFcs)
			b[i/8] ^= 1 << (i % 8)
		}
	}
	for _, s := range []string{
		"\xff\x03\xc0!,I", "\xff\x03\xc0!I,\x00", "\xff\x03\xc0!I\x00", "\xff\x03\xc0\x22I,",
		"\xfe\x03\xc0!I,", strings.Repeat("\x00", api.MaxText-1),
	} {
		refuses(t, s, api.ErrFrameFcs)
	}
}

// P3.2: a head that is not 255, 3 is told ahead of its protocol and its size.
func TestGetHead(t *testing.T) {
	long := mixed(api.MaxFrame + 1)
	for _, begin := range []string{"\x03\xff", "\xff\xff", "\x03\x03", "\xff\x02", "\xfe\x03", "\x00\x00", "\xc0!"} {
		refuses(t, sealed(begin+"\xc0\x21withy"), api.ErrFrameHead)
		refuses(t, sealed(begin+"\xc0\x22"), api.ErrFrameHead)
		refuses(t, sealed(begin+"\x01\x01"+long), api.ErrFrameHead)
	}
	refuses(t, sealed("\x00"+head+"\x21"), api.ErrFrameHead)
}

// P3.2: each number of two bytes as a protocol, the high byte first.
func TestGetProto(t *testing.T) {
	for n := range 1 << 16 {
		high, low := n/256, n%256
		s := sealed(head + string([]byte{byte(high), byte(low)}) + "x")
		if high%2 != 0 || low%2 != 1 {
			refuses(t, s, api.ErrFrameProto)
		} else if got, e := Get(s); got != (api.Frame{Proto: n, Data: "x"}) || e != api.OK {
			t.Fatalf("Get(proto %#x) = %v, %d", n, got, e)
		}
	}
}

// P3.2: MaxFrame bytes come, one more does not; a bad protocol is told ahead
// of that.
func TestGetLong(t *testing.T) {
	long := mixed(api.MaxFrame + 1)
	want := api.Frame{Proto: 33, Data: long[1:]}
	if got, e := Get(sealed(head + "\x00!" + long[1:])); got != want || e != api.OK {
		t.Errorf("Get(%d bytes) = %d bytes, %d", api.MaxFrame, len(got.Data), e)
	}
	refuses(t, sealed(head+"\x00!"+long), api.ErrFrameLong)
	refuses(t, sealed(head+"\x00!"+mixed(api.MaxText)), api.ErrFrameLong)
	refuses(t, sealed(head+"\x00\x20"+long), api.ErrFrameProto)
	refuses(t, sealed(head+"\x01!"+long), api.ErrFrameProto)
}

// P3.3: what was put comes back, by whatever map.
func TestGetOfPut(t *testing.T) {
	for _, proto := range protos {
		for _, data := range texts() {
			for _, m := range []int{0, -1, 0x000a0000, 1 << 31, 1 << 32, math.MinInt} {
				want := api.Frame{Proto: proto, Data: data}
				x, e := Put(want, m)
				if e != api.OK {
					t.Fatalf("Put(%#x, %.20q, %#x): %d", proto, data, m, e)
				}
				if got, e := Get(between(t, x)); got != want || e != api.OK {
					t.Fatalf("Get(Put(%#x, %.20q, %#x)) = %#x, %.20q, %d", proto, data, m, got.Proto, got.Data, e)
				}
			}
		}
	}
}

// P3.3: what Get takes is put again as it stood, where its map was the same.
func TestPutOfGet(t *testing.T) {
	for _, data := range texts() {
		s := sealed(head + "\xc0!" + data)
		f, e := Get(s)
		if e != api.OK {
			t.Fatalf("Get(%.20q): %d", s, e)
		}
		if x, e := Put(f, -1); x != flag+s+flag || e != api.OK {
			t.Errorf("Put(Get(%.20q)) = %.20q, %d", s, x, e)
		}
	}
}

// P3.3: frames come back one by one out of a line, noise ahead of them.
func TestGetOfLine(t *testing.T) {
	line := "noise"
	for _, data := range texts() {
		x, _ := Put(api.Frame{Proto: api.ProtoMp, Data: data}, 0)
		line += x
	}
	frames, rest := stuff.Split(line + "cut off")
	if len(frames) != len(texts()) || rest != "cut off" {
		t.Fatalf("%d frames of %d, rest %q", len(frames), len(texts()), rest)
	}
	for i, data := range texts() {
		if got, e := Get(frames[i]); got != (api.Frame{Proto: api.ProtoMp, Data: data}) || e != api.OK {
			t.Errorf("frame %d: %#x, %.20q, %d, want %.20q", i, got.Proto, got.Data, e, data)
		}
	}
}

// R1: any bytes with a good sum, and any without: an answer, no panic.
func TestGetOfAnything(t *testing.T) {
	for n := range 300 {
		Get(mixed(n))
		Get(sealed(mixed(n)))
		Get(sealed(head + mixed(n)))
	}
}

// R4: what is got shares no memory with what it was got of, nor with another
// answer.
func TestAnswersAreNew(t *testing.T) {
	s := fcs.Put(head + "\x00!ordinary")
	got, _ := Get(s)
	again, _ := Get(s)
	for _, other := range []string{s, again.Data} {
		if overlap(got.Data, other) {
			t.Errorf("the bytes got share memory with %q", other)
		}
	}
}

// overlap tells whether a begins within the memory of b.
func overlap(a, b string) bool {
	at, begin := uintptr(unsafe.Pointer(unsafe.StringData(a))), uintptr(unsafe.Pointer(unsafe.StringData(b)))
	return begin <= at && at < begin+uintptr(len(b))
}

// R5: calls at one time tell what calls one by one tell.
func TestAtOneTime(t *testing.T) {
	f := api.Frame{Proto: api.ProtoMp, Data: mixed(api.MaxPacket)}
	want, _ := Put(f, -1)
	s := between(t, want)
	var all sync.WaitGroup
	for range 8 {
		all.Go(func() {
			for range 50 {
				if got, e := Put(f, -1); got != want || e != api.OK {
					t.Errorf("Put tells something else beside other calls: %d", e)
				}
				if got, e := Get(s); got != f || e != api.OK {
					t.Errorf("Get tells something else beside other calls: %d", e)
				}
			}
		})
	}
	all.Wait()
}

func BenchmarkPutAndGet(b *testing.B) {
	for _, n := range []int{0, 64, api.MaxPacket, api.MaxFrame} {
		f := api.Frame{Proto: api.ProtoMp, Data: mixed(n)}
		b.Run(strconv.Itoa(n), func(b *testing.B) {
			b.SetBytes(int64(n))
			for b.Loop() {
				x, _ := Put(f, -1)
				Get(x[1 : len(x)-1])
			}
		})
	}
}
