package bapmsg

import (
	"fmt"
	"math"
	"math/rand/v2"
	"slices"
	"strconv"
	"strings"
	"sync"
	"testing"
	"unsafe"

	"withy/api"
)

// known are datagrams and how they stand, written out by hand.
var known = []struct {
	b    api.Bap
	want string
}{
	{api.Bap{Code: api.BapCallReq}, "\x01\x00\x00\x04"},
	{api.Bap{Code: api.BapCallResp}, "\x02\x00\x00\x05\x00"},
	{
		api.Bap{Code: api.BapCallReq, Id: 7, Opts: []api.Opt{{Kind: 1, Data: "\x00\x40"}, {Kind: 2}}},
		"\x01\x07\x00\x0a\x01\x04\x00\x40\x02\x02",
	},
	{
		api.Bap{Code: api.BapCallResp, Id: 7, Answer: api.BapNak, Opts: []api.Opt{{Kind: 1, Data: "\x00\x40"}, {Kind: 2}}},
		"\x02\x07\x00\x0b\x01\x01\x04\x00\x40\x02\x02",
	},
	{api.Bap{Code: api.BapCallbackReq, Id: 255, Opts: []api.Opt{{}}}, "\x03\xff\x00\x06\x00\x02"},
	{api.Bap{Code: api.BapCallbackResp, Id: 255, Answer: api.BapFull}, "\x04\xff\x00\x05\x03"},
	{api.Bap{Code: api.BapDropReq, Id: 128, Opts: []api.Opt{{Kind: 23, Data: "\x00\x02"}}}, "\x05\x80\x00\x08\x17\x04\x00\x02"},
	{api.Bap{Code: api.BapDropResp, Id: 128, Answer: 255, Opts: []api.Opt{{Kind: 255}}}, "\x06\x80\x00\x07\xff\xff\x02"},
	{api.Bap{Code: api.BapStatusInd, Id: 3, Opts: []api.Opt{{Kind: 4, Data: "\x00\x01"}}}, "\x07\x03\x00\x08\x04\x04\x00\x01"},
	{api.Bap{Code: api.BapStatusResp, Id: 3, Answer: api.BapAck}, "\x08\x03\x00\x05\x00"},
	{
		api.Bap{Code: api.BapCallReq, Id: 1, Opts: []api.Opt{{Kind: 7, Data: strings.Repeat("x", 253)}}},
		"\x01\x01\x01\x03\x07\xff" + strings.Repeat("x", 253),
	},
	{
		api.Bap{Code: api.BapDropResp, Id: 1, Answer: 2, Opts: []api.Opt{{Kind: 7, Data: strings.Repeat("x", 253)}}},
		"\x06\x01\x01\x04\x02\x07\xff" + strings.Repeat("x", 253),
	},
}

// outside are numbers that do not stand in a byte, some of them with low bits
// that would.
var outside = []int{-1, -2, -248, -252, -255, -256, 256, 257, 258, 263, 264, 1 << 16, 1<<32 | 1, 1<<32 | 2, math.MaxInt, math.MinInt}

// answers tells whether datagrams of a code have an answer.
func answers(code int) bool {
	return slices.Contains([]int{2, 4, 6, 8}, code)
}

// ahead gives how many bytes stand ahead of the options of a code.
func ahead(code int) int {
	if answers(code) {
		return 5
	}
	return 4
}

// ofSize gives options that come to size bytes, none or two and more: two
// bytes each, but for an odd byte of data.
func ofSize(size int) []api.Opt {
	os := make([]api.Opt, size/2)
	for i := range os {
		os[i].Kind = i & 255
	}
	if size%2 == 1 {
		os[0].Data = "x"
	}
	return os
}

// mixed gives n bytes of many values.
func mixed(n int) string {
	b := make([]byte, n)
	rand.NewChaCha8([32]byte{byte(n), byte(n >> 8)}).Read(b)
	return string(b)
}

// headed gives a datagram's bytes with a length of any number.
func headed(code, length int, body string) string {
	return string([]byte{byte(code), 9, byte(length / 256), byte(length % 256)}) + body
}

// whole gives a datagram's bytes with the length that they have; a response's
// answer is 1.
func whole(code int, options string) string {
	if answers(code) {
		options = "\x01" + options
	}
	return headed(code, 4+len(options), options)
}

// of gives the datagram that whole lays out.
func of(code int, os ...api.Opt) api.Bap {
	b := api.Bap{Code: code, Id: 9, Opts: os}
	if answers(code) {
		b.Answer = 1
	}
	return b
}

// same tells whether two datagrams are one, no options and nil being one.
func same(b, c api.Bap) bool {
	return b.Code == c.Code && b.Id == c.Id && b.Answer == c.Answer && slices.Equal(b.Opts, c.Opts)
}

// told gives a datagram as it is told of, with few of its options.
func told(b api.Bap) string {
	return fmt.Sprintf("{%d %d %d %.40q of %d options}", b.Code, b.Id, b.Answer, fmt.Sprint(b.Opts[:min(3, len(b.Opts))]), len(b.Opts))
}

// putRefuses holds Put to one error, and to no text beside it.
func putRefuses(t *testing.T, want api.Errno, b api.Bap) {
	t.Helper()
	if got, e := Put(b); got != "" || e != want {
		t.Errorf("Put(%s) = %.20q, %d, want %d", told(b), got, e, want)
	}
}

// putGives holds Put to one text.
func putGives(t *testing.T, want string, b api.Bap) {
	t.Helper()
	if got, e := Put(b); got != want || e != api.OK {
		t.Errorf("Put(%s) = %.40q, %d, want %.40q", told(b), got, e, want)
	}
}

// getRefuses holds Get to one error, and to no datagram beside it.
func getRefuses(t *testing.T, want api.Errno, s string) {
	t.Helper()
	if got, e := Get(s); !same(got, api.Bap{}) || e != want {
		t.Errorf("Get(%d bytes, %.20q) = %s, %d, want %d", len(s), s, told(got), e, want)
	}
}

// getGives holds Get to one datagram.
func getGives(t *testing.T, want api.Bap, s string) {
	t.Helper()
	if got, e := Get(s); !same(got, want) || e != api.OK {
		t.Errorf("Get(%d bytes, %.20q) = %s, %d, want %s", len(s), s, told(got), e, told(want))
	}
}

// P9.1: code, id, the length of all with its high byte first, of responses
// alone an answer, then the options.
func TestPutKnown(t *testing.T) {
	for _, k := range known {
		putGives(t, k.want, k.b)
	}
	putGives(t, "\x01\x00\x00\x04", api.Bap{Code: api.BapCallReq, Opts: []api.Opt{}})
	putGives(t, "\x02\x00\x00\x05\x00", api.Bap{Code: api.BapCallResp, Opts: []api.Opt{}})
}

// P9.1: each answer of a byte with each code: of responses it stands behind
// the head, of the others it must be 0.
func TestPutEachAnswer(t *testing.T) {
	os := []api.Opt{{Kind: 3, Data: "a"}}
	for code := 1; code <= 8; code++ {
		for answer := range 256 {
			b := api.Bap{Code: code, Id: 9, Answer: answer}
			withOptions := api.Bap{Code: code, Id: 9, Answer: answer, Opts: os}
			switch {
			case answers(code):
				putGives(t, string([]byte{byte(code), 9, 0, 5, byte(answer)}), b)
				putGives(t, string([]byte{byte(code), 9, 0, 8, byte(answer), 3, 3, 'a'}), withOptions)
			case answer == 0:
				putGives(t, string([]byte{byte(code), 9, 0, 4}), b)
				putGives(t, string([]byte{byte(code), 9, 0, 7, 3, 3, 'a'}), withOptions)
			default:
				putRefuses(t, api.ErrBapForm, b)
				putRefuses(t, api.ErrBapForm, withOptions)
			}
		}
		for _, answer := range outside {
			putRefuses(t, api.ErrBapForm, api.Bap{Code: code, Id: 9, Answer: answer})
			putRefuses(t, api.ErrBapForm, api.Bap{Code: code, Id: 9, Answer: answer, Opts: os})
		}
	}
}

// P9.1: each id of a byte goes with each code; those beyond do not.
func TestPutId(t *testing.T) {
	for code := 1; code <= 8; code++ {
		for id := range 256 {
			want := whole(code, "\x12\x02")
			b := of(code, api.Opt{Kind: 18})
			b.Id = id
			putGives(t, want[:1]+string([]byte{byte(id)})+want[2:], b)
		}
		for _, id := range outside {
			b := of(code)
			b.Id = id
			putRefuses(t, api.ErrBapForm, b)
			b.Opts = ofSize(20)
			putRefuses(t, api.ErrBapForm, b)
		}
	}
}

// P9.1: codes other than the eight are refused, with an answer and without,
// though their low bits may be those of one.
func TestPutCode(t *testing.T) {
	codes := slices.Clone(outside)
	for code := range 256 {
		if code == 0 || code > 8 {
			codes = append(codes, code)
		}
	}
	for _, code := range codes {
		for _, answer := range []int{0, 1, 255} {
			putRefuses(t, api.ErrBapForm, api.Bap{Code: code, Answer: answer})
			putRefuses(t, api.ErrBapForm, api.Bap{Code: code, Id: 9, Answer: answer, Opts: ofSize(20)})
		}
	}
}

// P9.1: options that layer 4 refuses, wherever they stand.
func TestPutBadOptions(t *testing.T) {
	good := api.Opt{Kind: 3}
	for _, bad := range []api.Opt{{Kind: -1}, {Kind: 256}, {Kind: 1<<32 | 1}, {Data: mixed(api.MaxData + 1)}, {Kind: 1, Data: mixed(api.MaxText)}} {
		for code := 1; code <= 8; code++ {
			putRefuses(t, api.ErrBapForm, of(code, bad))
			putRefuses(t, api.ErrBapForm, of(code, good, bad))
			putRefuses(t, api.ErrBapForm, of(code, bad, good))
		}
	}
}

// P9.1: MaxFrame bytes in all go, an answer among them; more do not; options
// that are too long for layer 4 are refused as such.
func TestPutLong(t *testing.T) {
	for code := 1; code <= 8; code++ {
		most := api.MaxFrame - ahead(code)
		for size := most - 300; size <= most; size++ {
			all := size + ahead(code)
			got, e := Put(of(code, ofSize(size)...))
			if e != api.OK || len(got) != all || int(got[2])*256+int(got[3]) != all {
				t.Errorf("Put(code %d, %d bytes of options) = %d bytes, %.4q, %d", code, size, len(got), got, e)
			}
		}
		for size := most + 1; size <= api.MaxFrame; size++ {
			putRefuses(t, api.ErrBapLong, of(code, ofSize(size)...))
		}
		for _, size := range []int{api.MaxFrame + 1, api.MaxFrame + 2, 2 * api.MaxFrame, api.MaxText} {
			putRefuses(t, api.ErrBapForm, of(code, ofSize(size)...))
		}
	}
}

// P9.1, R6: what has no form is told ahead of a size.
func TestPutOrder(t *testing.T) {
	long := ofSize(api.MaxFrame)
	for code := 1; code <= 8; code++ {
		putRefuses(t, api.ErrBapLong, of(code, long...))
		for _, n := range outside {
			putRefuses(t, api.ErrBapForm, api.Bap{Code: n, Opts: long})
			putRefuses(t, api.ErrBapForm, api.Bap{Code: code, Id: n, Opts: long})
			putRefuses(t, api.ErrBapForm, api.Bap{Code: code, Answer: n, Opts: long})
		}
		if !answers(code) {
			putRefuses(t, api.ErrBapForm, api.Bap{Code: code, Answer: 1, Opts: long})
		}
	}
	for _, code := range []int{0, 9, 10, 255} {
		putRefuses(t, api.ErrBapForm, api.Bap{Code: code, Opts: long})
	}
}

// P9.1: the datagrams that are known, with bytes behind them and without.
func TestGetKnown(t *testing.T) {
	for _, k := range known {
		for _, behind := range []string{"", "\x00", "\x01", "\x01\x02", "\xff\xff\xff", mixed(api.MaxText)} {
			getGives(t, k.b, k.want+behind)
		}
	}
}

// P9.1: fewer bytes than a head are refused, whatever they are.
func TestGetShort(t *testing.T) {
	getRefuses(t, api.ErrBapForm, "")
	for b := range 256 {
		one := string([]byte{byte(b)})
		for n := range 3 {
			getRefuses(t, api.ErrBapForm, strings.Repeat(one, n+1))
		}
	}
	for code := range 10 {
		for length := range 6 {
			getRefuses(t, api.ErrBapForm, headed(code, length, "")[:3])
		}
	}
}

// P9.1: a length below four, or five of responses, is refused, whatever stands
// behind it.
func TestGetLowLength(t *testing.T) {
	bodies := []string{"", "\x00", "\x01", "\x01\x02", "\x00\x01\x02", mixed(api.MaxText)}
	for code := 1; code <= 8; code++ {
		for length := range ahead(code) {
			for _, body := range bodies {
				getRefuses(t, api.ErrBapForm, headed(code, length, body))
			}
		}
		for _, body := range bodies {
			if answers(code) {
				getGives(t, of(code), headed(code, 5, "\x01"+body))
			} else {
				getGives(t, of(code), headed(code, 4, body))
			}
		}
	}
}

// P9.1: a length beyond the end is refused; both its bytes count, the high one
// first.
func TestGetHighLength(t *testing.T) {
	for code := 1; code <= 8; code++ {
		body := "\x01" + strings.Repeat("\x02", 300)
		for length := 5; length <= len(body); length++ {
			for _, left := range []int{0, 1, 2, length / 2, length - 6, length - 5} {
				getRefuses(t, api.ErrBapForm, headed(code, length, body[:max(0, min(left, length-5))]))
			}
		}
		for _, length := range []int{0x0100, 0x0104, 0x0105, 0x0400, 0x0500, 0x0505, api.MaxFrame, 0x0805, 0x8005, 0xff05, 0xffff} {
			getRefuses(t, api.ErrBapForm, headed(code, length, ""))
			getRefuses(t, api.ErrBapForm, headed(code, length, "\x01"))
			getRefuses(t, api.ErrBapForm, headed(code, length, strings.Repeat("\x02", length-5)))
		}
	}
}

// P9.1: codes other than the eight are refused, whatever they hold.
func TestGetCode(t *testing.T) {
	for code := range 256 {
		if 1 <= code && code <= 8 {
			continue
		}
		for _, body := range []string{"", "\x00", "\x01", "\x01\x02", "\x00\x01\x02", "\x01\x02\x01\x02", strings.Repeat("\x02", api.MaxFrame-4)} {
			getRefuses(t, api.ErrBapForm, headed(code, 4+len(body), body))
			getRefuses(t, api.ErrBapForm, headed(code, 4+len(body), body)+"behind")
		}
	}
}

// P9.1: each byte as an id and as an answer.
func TestGetEachByte(t *testing.T) {
	for code := 1; code <= 8; code++ {
		for n := range 256 {
			b := byte(n)
			if answers(code) {
				getGives(t, api.Bap{Code: code, Id: n}, string([]byte{byte(code), b, 0, 5, 0}))
				getGives(t, api.Bap{Code: code, Id: n, Answer: 255 - n}, string([]byte{byte(code), b, 0, 5, 255 - b}))
			} else {
				getGives(t, api.Bap{Code: code, Id: n}, string([]byte{byte(code), b, 0, 4}))
				getGives(t, api.Bap{Code: code, Id: n, Opts: []api.Opt{{Kind: n}}}, string([]byte{byte(code), b, 0, 6, b, 2}))
			}
		}
	}
}

// P9.1: what layer 4 refuses is refused; options end where the datagram does.
func TestGetOptions(t *testing.T) {
	good := []api.Opt{{Kind: 17, Data: "\x05\xdc"}, {Kind: 18}, {Kind: 18}}
	for code := 1; code <= 8; code++ {
		for _, bad := range []string{"\x01", "\x02", "\x01\x00", "\x01\x01", "\x01\x03", "\x01\x02\x05", "\x01\x04ab\x02\x04c", "\x00\xff", "\x07\x06abc"} {
			for _, behind := range []string{"", "\x02", "\x02\x02", strings.Repeat("\x02", api.MaxFrame)} {
				getRefuses(t, api.ErrBapForm, whole(code, bad)+behind)
			}
		}
		s := whole(code, "\x11\x04\x05\xdc\x12\x02\x12\x02")
		getGives(t, of(code, good...), s)
		getGives(t, of(code, good...), s+"\x01")
		getGives(t, of(code, good...), s+"\x12\x02")
	}
}

// P9.1, R6: MaxFrame bytes come, one more does not, which is told behind a
// length beyond the end and a bad code, and ahead of bad options.
func TestGetLong(t *testing.T) {
	for code := 1; code <= 8; code++ {
		os := ofSize(api.MaxFrame - ahead(code))
		x, e := Put(of(code, os...))
		if e != api.OK || len(x) != api.MaxFrame {
			t.Fatalf("Put(code %d) = %d bytes, %d", code, len(x), e)
		}
		getGives(t, of(code, os...), x)
		getGives(t, of(code, os...), x+mixed(api.MaxText))
		getRefuses(t, api.ErrBapForm, headed(code, api.MaxFrame, strings.Repeat("\x01", api.MaxFrame-4)))
		for length := range 0x10000 {
			if length <= api.MaxFrame || length > api.MaxFrame+4 && length%1021 != 0 && length != 0xffff {
				continue
			}
			for _, fill := range []string{"\x01", "\x02"} {
				s := headed(code, length, strings.Repeat(fill, length-4))
				getRefuses(t, api.ErrBapLong, s)
				getRefuses(t, api.ErrBapLong, s+"more")
				getRefuses(t, api.ErrBapForm, s[:length-1])
				getRefuses(t, api.ErrBapForm, "\x00"+s[1:])
				getRefuses(t, api.ErrBapForm, "\x09"+s[1:])
			}
		}
	}
}

// P9.2: what was put comes back, bytes behind it or not.
func TestGetOfPut(t *testing.T) {
	chance := rand.New(rand.NewChaCha8([32]byte{9}))
	for n := range 4000 {
		want := api.Bap{Code: n%8 + 1, Id: chance.IntN(256)}
		if answers(want.Code) {
			want.Answer = chance.IntN(256)
		}
		for range chance.IntN(8) {
			want.Opts = append(want.Opts, api.Opt{Kind: chance.IntN(256), Data: mixed(chance.IntN(api.MaxData + 1))})
		}
		s, e := Put(want)
		if e != api.OK {
			t.Fatalf("Put(%s): %d", told(want), e)
		}
		getGives(t, want, s)
		getGives(t, want, s+mixed(n%5))
	}
}

// P9.2, R1: any bytes are either refused or come back as they stood, without
// what stood behind their length.
func TestPutOfGet(t *testing.T) {
	chance := rand.New(rand.NewChaCha8([32]byte{99}))
	taken := 0
	for n := range 9000 {
		s := mixed(n % 300)
		if n >= 300 {
			body := mixed(chance.IntN(2))
			for range chance.IntN(4) {
				size := chance.IntN(5)
				body += string([]byte{byte(n), byte(size + 2)}) + mixed(size)
			}
			s = headed(n%10, 4+len(body)-chance.IntN(2), body)
		}
		b, e := Get(s)
		if e != api.OK {
			continue
		}
		taken++
		length := int(s[2])*256 + int(s[3])
		if x, e := Put(b); e != api.OK || x != s[:length] {
			t.Errorf("Put(Get(%q)) = %q, %d", s, x, e)
		}
	}
	if taken < 1000 {
		t.Errorf("only %d texts were taken", taken)
	}
}

// R4: what is handed in stays as it is, its spare room too.
func TestArgumentsStay(t *testing.T) {
	room := []api.Opt{{Kind: 1, Data: "a"}, {Kind: 2, Data: "b"}, {Kind: 3, Data: "c"}}
	was := slices.Clone(room)
	for code := range 10 {
		Put(of(code, room[:1]...))
	}
	if !slices.Equal(room, was) {
		t.Errorf("handed in %v, left %v", was, room)
	}
}

// R4: what is got shares no memory with what it was got of, nor with another
// answer; what is put shares none with its data.
func TestAnswersAreNew(t *testing.T) {
	for code := 1; code <= 8; code++ {
		s := whole(code, "\x01\x06abcd\x02\x06efgh")
		got, _ := Get(s)
		again, _ := Get(s)
		x, _ := Put(got)
		for i, o := range got.Opts {
			for _, other := range []string{s, x, again.Opts[i].Data, got.Opts[1-i].Data} {
				if overlap(o.Data, other) {
					t.Errorf("the data of option %d of Get(%q) shares memory with %q", i, s, other)
				}
			}
		}
		got.Opts[0] = api.Opt{Kind: 9}
		if fresh, _ := Get(s); !same(again, fresh) {
			t.Errorf("one answer changes with another: %v", again)
		}
	}
}

// overlap tells whether a begins within the memory of b.
func overlap(a, b string) bool {
	at, begin := uintptr(unsafe.Pointer(unsafe.StringData(a))), uintptr(unsafe.Pointer(unsafe.StringData(b)))
	return begin <= at && at < begin+uintptr(len(b))
}

// R5: calls at one time tell what calls one by one tell.
func TestAtOneTime(t *testing.T) {
	b := of(api.BapDropResp, ofSize(api.MaxPacket)...)
	want, _ := Put(b)
	var all sync.WaitGroup
	for range 8 {
		all.Go(func() {
			for range 50 {
				if got, e := Put(b); got != want || e != api.OK {
					t.Errorf("Put tells something else beside other calls: %d", e)
				}
				if got, e := Get(want); !same(got, b) || e != api.OK {
					t.Errorf("Get tells something else beside other calls: %d", e)
				}
			}
		})
	}
	all.Wait()
}

func BenchmarkPutAndGet(b *testing.B) {
	for _, n := range []int{0, 64, api.MaxPacket, api.MaxFrame - 5} {
		d := of(api.BapCallResp, ofSize(n)...)
		b.Run(strconv.Itoa(n), func(b *testing.B) {
			b.SetBytes(int64(n))
			for b.Loop() {
				s, _ := Put(d)
				Get(s)
			}
		})
	}
}
