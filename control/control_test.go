package control

import (
	"math"
	"math/rand/v2"
	"slices"
	"strconv"
	"strings"
	"sync"
	"testing"
	"unsafe"

	"withy/api"
)

// known are packets and how they stand, written out by hand.
var known = []struct {
	p    api.Packet
	want string
}{
	{api.Packet{}, "\x00\x00\x00\x04"},
	{api.Packet{Data: "null"}, "\x00\x00\x00\x08null"},
	{api.Packet{Code: 255, Id: 255}, "\xff\xff\x00\x04"},
	{api.Packet{Code: api.CodeConfReq, Id: 1}, "\x01\x01\x00\x04"},
	{
		api.Packet{Code: api.CodeConfReq, Id: 7, Opts: []api.Opt{{Kind: api.OptMrru, Data: "\x05\xdc"}, {Kind: api.OptShort}}},
		"\x01\x07\x00\x0a\x11\x04\x05\xdc\x12\x02",
	},
	{api.Packet{Code: api.CodeConfAck, Id: 2, Opts: []api.Opt{{}}}, "\x02\x02\x00\x06\x00\x02"},
	{api.Packet{Code: api.CodeConfNak, Id: 128, Opts: []api.Opt{{Kind: api.OptMru, Data: "\x05\xdc"}}}, "\x03\x80\x00\x08\x01\x04\x05\xdc"},
	{api.Packet{Code: api.CodeConfRej, Opts: []api.Opt{{Kind: 9}, {Kind: 9}}}, "\x04\x00\x00\x08\x09\x02\x09\x02"},
	{api.Packet{Code: api.CodeTermReq, Id: 3, Data: "bye"}, "\x05\x03\x00\x07bye"},
	{api.Packet{Code: api.CodeTermAck, Id: 3}, "\x06\x03\x00\x04"},
	{api.Packet{Code: api.CodeCodeRej, Id: 4, Data: "\x0c\x01\x00\x04"}, "\x07\x04\x00\x08\x0c\x01\x00\x04"},
	{api.Packet{Code: api.CodeEchoReq, Id: 5, Data: "\x01\x02"}, "\x09\x05\x00\x06\x01\x02"},
	{api.Packet{Code: api.CodeDiscard, Id: 6, Data: "\x01"}, "\x0b\x06\x00\x05\x01"},
	{
		api.Packet{Code: api.CodeConfReq, Id: 8, Opts: []api.Opt{{Kind: 7, Data: strings.Repeat("x", 253)}}},
		"\x01\x08\x01\x03\x07\xff" + strings.Repeat("x", 253),
	},
	{api.Packet{Code: api.CodeEchoRep, Id: 9, Data: strings.Repeat("y", 2044)}, "\x0a\x09\x08\x00" + strings.Repeat("y", 2044)},
}

// outside are numbers that do not stand in a byte, some of them with low bits
// that would.
var outside = []int{-1, -252, -255, -256, 256, 257, 261, 1 << 16, 1<<32 | 1, math.MaxInt, math.MinInt}

// holdsOptions tells whether a code is one of the four that configure.
func holdsOptions(code int) bool {
	return slices.Contains([]int{1, 2, 3, 4}, code)
}

// ofSize gives options that come to size bytes, two or more: two bytes each,
// but for an odd byte of data.
func ofSize(size int) []api.Opt {
	os := make([]api.Opt, size/2)
	for i := range os {
		os[i].Kind = i & 255
	}
	if size%2 == 1 {
		os[0].Data = "x"
	}
	return os
}

// mixed gives n bytes of many values.
func mixed(n int) string {
	b := make([]byte, n)
	rand.NewChaCha8([32]byte{byte(n), byte(n >> 8)}).Read(b)
	return string(b)
}

// headed gives a packet's bytes with a length of any number.
func headed(code, length int, body string) string {
	return string([]byte{byte(code), 9, byte(length / 256), byte(length % 256)}) + body
}

// same tells whether two packets are one, no options and nil being one.
func same(p, q api.Packet) bool {
	return p.Code == q.Code && p.Id == q.Id && p.Data == q.Data && slices.Equal(p.Opts, q.Opts)
}

// putRefuses holds Put to one error, and to no text beside it.
func putRefuses(t *testing.T, want api.Errno, p api.Packet) {
	t.Helper()
	if got, e := Put(p); got != "" || e != want {
		t.Errorf("Put(%d, %d, %d options, %d bytes) = %.20q, %d, want %d", p.Code, p.Id, len(p.Opts), len(p.Data), got, e, want)
	}
}

// getRefuses holds Get to one error, and to no packet beside it.
func getRefuses(t *testing.T, want api.Errno, s string) {
	t.Helper()
	if got, e := Get(s); !same(got, api.Packet{}) || e != want {
		t.Errorf("Get(%d bytes, %.20q) = %.60v, %d, want %d", len(s), s, got, e, want)
	}
}

// getGives holds Get to one packet.
func getGives(t *testing.T, want api.Packet, s string) {
	t.Helper()
	if got, e := Get(s); !same(got, want) || e != api.OK {
		t.Errorf("Get(%d bytes, %.20q) = %.60v, %d, want %.60v", len(s), s, got, e, want)
	}
}

// P5.1: code, id, the length of all with its high byte first, options or data.
func TestPutKnown(t *testing.T) {
	for _, c := range known {
		if got, e := Put(c.p); got != c.want || e != api.OK {
			t.Errorf("Put(%.60v) = %.40q, %d, want %.40q", c.p, got, e, c.want)
		}
	}
	if got, e := Put(api.Packet{Code: api.CodeTermReq, Opts: []api.Opt{}}); got != "\x05\x00\x00\x04" || e != api.OK {
		t.Errorf("Put with an empty list = %q, %d", got, e)
	}
}

// P5.1: each code of a byte with nothing, options, data, and both: options
// beside the four that configure, data beside the others.
func TestPutEachCode(t *testing.T) {
	os := []api.Opt{{Kind: 1, Data: "a"}}
	for code := range 256 {
		for _, id := range []int{0, 1, 127, 128, 255} {
			begin := string([]byte{byte(code), byte(id)})
			if got, e := Put(api.Packet{Code: code, Id: id}); got != begin+"\x00\x04" || e != api.OK {
				t.Errorf("Put(code %d, id %d) = %q, %d", code, id, got, e)
			}
			wantOpts, wantData := "", begin+"\x00\x05d"
			errOpts, errData := api.ErrControlOpts, api.OK
			if holdsOptions(code) {
				wantOpts, wantData = begin+"\x00\x07\x01\x03a", ""
				errOpts, errData = api.OK, api.ErrControlOpts
			}
			if got, e := Put(api.Packet{Code: code, Id: id, Opts: os}); got != wantOpts || e != errOpts {
				t.Errorf("Put(code %d, id %d, options) = %q, %d", code, id, got, e)
			}
			if got, e := Put(api.Packet{Code: code, Id: id, Data: "d"}); got != wantData || e != errData {
				t.Errorf("Put(code %d, id %d, data) = %q, %d", code, id, got, e)
			}
			putRefuses(t, api.ErrControlOpts, api.Packet{Code: code, Id: id, Opts: os, Data: "d"})
		}
	}
}

// P5.1, R6: codes and ids beyond a byte are told ahead of all else.
func TestPutNumbers(t *testing.T) {
	for _, n := range outside {
		for _, p := range []api.Packet{
			{Code: n}, {Id: n}, {Code: n, Id: n}, {Code: n, Id: 255}, {Code: api.CodeConfReq, Id: n}, {Code: 255, Id: n},
			{Code: n, Opts: []api.Opt{{Kind: 1}}},
			{Code: n, Opts: []api.Opt{{Kind: -1}}},
			{Code: api.CodeConfReq, Id: n, Opts: ofSize(api.MaxFrame + 1)},
			{Code: api.CodeTermReq, Id: n, Opts: []api.Opt{{Kind: 1}}},
			{Code: api.CodeConfReq, Id: n, Data: "d"},
			{Code: n, Data: mixed(api.MaxFrame)},
			{Code: api.CodeTermReq, Id: n, Data: mixed(api.MaxFrame)},
		} {
			putRefuses(t, api.ErrControlLength, p)
		}
	}
}

// P5.1: options that layer 4 refuses, wherever they stand and whatever the
// code is.
func TestPutBadOptions(t *testing.T) {
	good := api.Opt{Kind: 3}
	for _, bad := range []api.Opt{{Kind: -1}, {Kind: 256}, {Kind: 1<<32 | 1}, {Data: mixed(api.MaxData + 1)}, {Kind: 1, Data: mixed(api.MaxText)}} {
		for code := range 256 {
			putRefuses(t, api.ErrControlOpts, api.Packet{Code: code, Opts: []api.Opt{bad}})
			putRefuses(t, api.ErrControlOpts, api.Packet{Code: code, Opts: []api.Opt{good, bad}})
			putRefuses(t, api.ErrControlOpts, api.Packet{Code: code, Opts: []api.Opt{bad, good}, Data: "d"})
		}
	}
}

// P5.1: MaxFrame bytes in all go, one more does not; options too long for
// layer 4 are refused as such.
func TestPutLong(t *testing.T) {
	const most = api.MaxFrame - 4
	for _, size := range []int{most - 1, most} {
		length := string([]byte{byte((size + 4) >> 8), byte(size + 4)})
		for _, p := range []api.Packet{
			{Code: api.CodeConfReq, Opts: ofSize(size)}, {Code: api.CodeConfRej, Opts: ofSize(size)},
			{Data: mixed(size)}, {Code: api.CodeTermReq, Data: mixed(size)}, {Code: 255, Data: mixed(size)},
		} {
			if got, e := Put(p); e != api.OK || len(got) != size+4 || got[2:4] != length {
				t.Errorf("Put(code %d, %d bytes behind the head) = %d bytes, %d", p.Code, size, len(got), e)
			}
		}
	}
	for _, size := range []int{most + 1, most + 2, most + 3, most + 4} {
		for code := range 12 {
			p := api.Packet{Code: code, Data: mixed(size)}
			if holdsOptions(code) {
				p = api.Packet{Code: code, Opts: ofSize(size)}
			}
			putRefuses(t, api.ErrControlLong, p)
		}
	}
	for _, size := range []int{most + 5, 2 * api.MaxFrame, api.MaxText - 4, api.MaxText} {
		putRefuses(t, api.ErrControlLong, api.Packet{Code: api.CodeEchoReq, Data: mixed(size)})
		putRefuses(t, api.ErrControlOpts, api.Packet{Code: api.CodeConfReq, Opts: ofSize(size)})
	}
}

// P5.1, R6: what may not stand beside a code is told ahead of a size.
func TestPutOrder(t *testing.T) {
	long := mixed(api.MaxFrame)
	for code := range 12 {
		putRefuses(t, api.ErrControlOpts, api.Packet{Code: code, Opts: []api.Opt{{Kind: 1}}, Data: long})
		putRefuses(t, api.ErrControlOpts, api.Packet{Code: code, Opts: ofSize(api.MaxFrame), Data: "d"})
		if holdsOptions(code) {
			putRefuses(t, api.ErrControlOpts, api.Packet{Code: code, Data: long})
		} else {
			putRefuses(t, api.ErrControlOpts, api.Packet{Code: code, Opts: ofSize(api.MaxFrame)})
		}
	}
}

// P5.2: the packets that are known, with bytes behind them and without.
func TestGetKnown(t *testing.T) {
	for _, c := range known {
		for _, behind := range []string{"", "\x00", "\x01", "\x01\x02", "\xff\xff\xff", mixed(api.MaxText)} {
			getGives(t, c.p, c.want+behind)
		}
	}
}

// P5.2: fewer than four bytes are short, whatever they are.
func TestGetShort(t *testing.T) {
	getRefuses(t, api.ErrControlShort, "")
	for b := range 256 {
		one := string([]byte{byte(b)})
		for n := range 3 {
			getRefuses(t, api.ErrControlShort, strings.Repeat(one, n+1))
		}
	}
	getRefuses(t, api.ErrControlShort, "\x01\x01\x00")
	getRefuses(t, api.ErrControlShort, "\x05\x01\x08")
}

// P5.2: a length below four, or above what stands, is refused; both its bytes
// count, the high one first.
func TestGetLength(t *testing.T) {
	for _, code := range []int{0, 1, 4, 5, 255} {
		for length := range 4 {
			getRefuses(t, api.ErrControlLength, headed(code, length, ""))
			getRefuses(t, api.ErrControlLength, headed(code, length, "\x01\x02"))
			getRefuses(t, api.ErrControlLength, headed(code, length, mixed(api.MaxText)))
		}
		for _, length := range []int{5, 6, 255, 256, 257, 260, 511, 1024, api.MaxFrame, api.MaxFrame + 1, 0x0400, 0x8004, 0xff04, 0xffff} {
			getRefuses(t, api.ErrControlLength, headed(code, length, ""))
			getRefuses(t, api.ErrControlLength, headed(code, length, strings.Repeat("\x01", length-5)))
		}
		getGives(t, api.Packet{Code: code, Id: 9}, headed(code, 4, ""))
	}
	for length := 4; length <= api.MaxFrame; length++ {
		body := mixed(length - 4)
		getGives(t, api.Packet{Code: api.CodeEchoReq, Id: 9, Data: body}, headed(api.CodeEchoReq, length, body))
		getGives(t, api.Packet{Code: api.CodeEchoReq, Id: 9, Data: body}, headed(api.CodeEchoReq, length, body+"more"))
	}
}

// P5.2, R6: MaxFrame bytes come, one more does not, which is told behind a
// length beyond the end and ahead of bad options.
func TestGetLong(t *testing.T) {
	os := ofSize(api.MaxFrame - 4)
	x, _ := Put(api.Packet{Code: api.CodeConfNak, Id: 9, Opts: os})
	getGives(t, api.Packet{Code: api.CodeConfNak, Id: 9, Opts: os}, x)
	for _, code := range []int{0, 1, 2, 3, 4, 5, 9, 255} {
		for _, length := range []int{api.MaxFrame + 1, api.MaxFrame + 2, 4096, 0xff04, 0xffff} {
			body := strings.Repeat("\x01", length-4)
			getRefuses(t, api.ErrControlLong, headed(code, length, body))
			getRefuses(t, api.ErrControlLong, headed(code, length, body+"more"))
			getRefuses(t, api.ErrControlLength, headed(code, length, body[1:]))
		}
		good := strings.Repeat("\x01\x02", api.MaxFrame/2)
		getRefuses(t, api.ErrControlLong, headed(code, api.MaxFrame+2, good))
	}
}

// P5.2: what layer 4 refuses is refused of the four codes that configure, and
// is data of all others; options end where the packet does.
func TestGetOptions(t *testing.T) {
	for code := range 256 {
		for _, body := range []string{"\x01", "\x01\x00", "\x01\x01", "\x01\x03", "\x01\x02\x05", "\x01\x04ab\x02\x04c", "\x00\xff", "\x07\x06abc"} {
			for _, behind := range []string{"", "\x02", "\x02\x02", strings.Repeat("\x02", api.MaxFrame)} {
				s := headed(code, 4+len(body), body+behind)
				if holdsOptions(code) {
					getRefuses(t, api.ErrControlOpts, s)
				} else {
					getGives(t, api.Packet{Code: code, Id: 9, Data: body}, s)
				}
			}
		}
		good := headed(code, 12, "\x11\x04\x05\xdc\x12\x02\x12\x02")
		want := api.Packet{Code: code, Id: 9, Data: good[4:]}
		if holdsOptions(code) {
			want = api.Packet{Code: code, Id: 9, Opts: []api.Opt{{Kind: 17, Data: "\x05\xdc"}, {Kind: 18}, {Kind: 18}}}
		}
		getGives(t, want, good)
		getGives(t, want, good+"\x01")
	}
}

// P5.3: what was put comes back, bytes behind it or not.
func TestGetOfPut(t *testing.T) {
	chance := rand.New(rand.NewChaCha8([32]byte{5}))
	for n := range 4000 {
		want := api.Packet{Code: chance.IntN(256), Id: chance.IntN(256)}
		if n%2 == 0 {
			want.Code = n % 14
		}
		if !holdsOptions(want.Code) {
			want.Data = mixed(chance.IntN(api.MaxFrame - 3))
		} else {
			for range chance.IntN(8) {
				want.Opts = append(want.Opts, api.Opt{Kind: chance.IntN(256), Data: mixed(chance.IntN(api.MaxData + 1))})
			}
		}
		s, e := Put(want)
		if e != api.OK {
			t.Fatalf("Put(%.60v): %d", want, e)
		}
		getGives(t, want, s)
		getGives(t, want, s+mixed(n%5))
	}
}

// P5.3, R1: any bytes are either refused or come back as they stood, without
// what stood behind their length.
func TestPutOfGet(t *testing.T) {
	taken := 0
	for n := range 6000 {
		s := mixed(n % 300)
		if n >= 300 {
			s = headed(n%7, 4+n%12, string([]byte{byte(n), byte(n%9 + 1)})+mixed(n%13))
		}
		p, e := Get(s)
		if e != api.OK {
			continue
		}
		taken++
		length := int(s[2])*256 + int(s[3])
		if x, e := Put(p); e != api.OK || x != s[:length] {
			t.Errorf("Put(Get(%q)) = %q, %d", s, x, e)
		}
	}
	if taken < 1000 {
		t.Errorf("only %d texts were taken", taken)
	}
}

// R4: what is handed in stays as it is, its spare room too.
func TestArgumentsStay(t *testing.T) {
	room := []api.Opt{{Kind: 1, Data: "a"}, {Kind: 2, Data: "b"}, {Kind: 3, Data: "c"}}
	was := slices.Clone(room)
	Put(api.Packet{Code: api.CodeConfReq, Opts: room[:1]})
	Put(api.Packet{Code: api.CodeTermReq, Opts: room[:1]})
	if !slices.Equal(room, was) {
		t.Errorf("handed in %v, left %v", was, room)
	}
}

// R4: what is got shares no memory with what it was got of, nor with another
// answer; what is put shares none with its data.
func TestAnswersAreNew(t *testing.T) {
	for _, s := range []string{headed(api.CodeEchoReq, 10, "abcdef"), headed(api.CodeConfReq, 10, "\x01\x06abcd")} {
		got, _ := Get(s)
		again, _ := Get(s)
		x, _ := Put(got)
		for _, other := range []string{s, x, data(again)} {
			if overlap(data(got), other) {
				t.Errorf("Get(%q) shares memory with %q", s, other)
			}
		}
		if len(got.Opts) > 0 {
			got.Opts[0] = api.Opt{Kind: 9}
		}
		if fresh, _ := Get(s); !same(again, fresh) {
			t.Errorf("one answer changes with another: %v", again)
		}
	}
}

// data gives the bytes that a packet holds, those of its first option if it
// has any.
func data(p api.Packet) string {
	if len(p.Opts) > 0 {
		return p.Opts[0].Data
	}
	return p.Data
}

// overlap tells whether a begins within the memory of b.
func overlap(a, b string) bool {
	at, begin := uintptr(unsafe.Pointer(unsafe.StringData(a))), uintptr(unsafe.Pointer(unsafe.StringData(b)))
	return begin <= at && at < begin+uintptr(len(b))
}

// R5: calls at one time tell what calls one by one tell.
func TestAtOneTime(t *testing.T) {
	p := api.Packet{Code: api.CodeConfReq, Id: 9, Opts: ofSize(api.MaxPacket)}
	want, _ := Put(p)
	var all sync.WaitGroup
	for range 8 {
		all.Go(func() {
			for range 50 {
				if got, e := Put(p); got != want || e != api.OK {
					t.Errorf("Put tells something else beside other calls: %d", e)
				}
				if got, e := Get(want); !same(got, p) || e != api.OK {
					t.Errorf("Get tells something else beside other calls: %d", e)
				}
			}
		})
	}
	all.Wait()
}

func BenchmarkPutAndGet(b *testing.B) {
	for _, n := range []int{0, 64, api.MaxPacket, api.MaxFrame - 4} {
		p := api.Packet{Code: api.CodeConfReq, Opts: ofSize(n)}
		b.Run(strconv.Itoa(n), func(b *testing.B) {
			b.SetBytes(int64(n))
			for b.Loop() {
				s, _ := Put(p)
				Get(s)
			}
		})
	}
}
