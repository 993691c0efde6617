package chapmsg

import (
	"fmt"
	"math"
	"math/rand/v2"
	"strconv"
	"strings"
	"sync"
	"testing"
	"unsafe"

	"withy/api"
)

// known are messages and how they stand, written out by hand.
var known = []struct {
	c    api.Chap
	want string
}{
	{api.Chap{Code: api.ChapChallenge, Id: 1, Value: "v"}, "\x01\x01\x00\x06\x01v"},
	{api.Chap{Code: api.ChapChallenge, Id: 7, Value: "abc", Name: "withy"}, "\x01\x07\x00\x0d\x03abcwithy"},
	{api.Chap{Code: api.ChapResponse, Id: 255, Value: "\x00\xff", Name: "\x00"}, "\x02\xff\x00\x08\x02\x00\xff\x00"},
	{
		api.Chap{Code: api.ChapResponse, Id: 2, Value: "0123456789abcdef", Name: "b"},
		"\x02\x02\x00\x16\x100123456789abcdefb",
	},
	{api.Chap{Code: api.ChapSuccess}, "\x03\x00\x00\x04"},
	{api.Chap{Code: api.ChapSuccess, Id: 1, Name: "ok"}, "\x03\x01\x00\x06ok"},
	{api.Chap{Code: api.ChapFailure, Id: 128, Name: "no"}, "\x04\x80\x00\x06no"},
	{api.Chap{Code: api.ChapFailure, Id: 3, Name: "\x05value"}, "\x04\x03\x00\x0a\x05value"},
	{
		api.Chap{Code: api.ChapChallenge, Id: 4, Value: strings.Repeat("v", 255), Name: strings.Repeat("n", 253)},
		"\x01\x04\x02\x01\xff" + strings.Repeat("v", 255) + strings.Repeat("n", 253),
	},
	{api.Chap{Code: api.ChapSuccess, Id: 5, Name: strings.Repeat("n", 253)}, "\x03\x05\x01\x01" + strings.Repeat("n", 253)},
}

// outside are numbers that do not stand in a byte, some of them with low bits
// that would.
var outside = []int{-1, -252, -255, -256, 256, 257, 259, 1 << 16, 1<<32 | 1, math.MaxInt, math.MinInt}

// mixed gives n bytes of many values.
func mixed(n int) string {
	b := make([]byte, n)
	rand.NewChaCha8([32]byte{byte(n), byte(n >> 8)}).Read(b)
	return string(b)
}

// headed gives a message's bytes with a length of any number.
func headed(code, length int, body string) string {
	return string([]byte{byte(code), 9, byte(length / 256), byte(length % 256)}) + body
}

// whole gives a message's bytes with the length that they have.
func whole(code int, body string) string {
	return headed(code, 4+len(body), body)
}

// told gives a message as it is told of, its bytes readable and not too many.
func told(c api.Chap) string {
	return fmt.Sprintf("{%d %d %.20q %.20q of %d and %d bytes}", c.Code, c.Id, c.Value, c.Name, len(c.Value), len(c.Name))
}

// putRefuses holds Put to one error, and to no text beside it.
func putRefuses(t *testing.T, want api.Errno, c api.Chap) {
	t.Helper()
	if got, e := Put(c); got != "" || e != want {
		t.Errorf("Put(%s) = %.20q, %d, want %d", told(c), got, e, want)
	}
}

// putGives holds Put to one text.
func putGives(t *testing.T, want string, c api.Chap) {
	t.Helper()
	if got, e := Put(c); got != want || e != api.OK {
		t.Errorf("Put(%s) = %.40q, %d, want %.40q", told(c), got, e, want)
	}
}

// getRefuses holds Get to one error, and to no message beside it.
func getRefuses(t *testing.T, want api.Errno, s string) {
	t.Helper()
	if got, e := Get(s); got != (api.Chap{}) || e != want {
		t.Errorf("Get(%d bytes, %.20q) = %s, %d, want %d", len(s), s, told(got), e, want)
	}
}

// getGives holds Get to one message.
func getGives(t *testing.T, want api.Chap, s string) {
	t.Helper()
	if got, e := Get(s); got != want || e != api.OK {
		t.Errorf("Get(%d bytes, %.20q) = %s, %d, want %s", len(s), s, told(got), e, told(want))
	}
}

// P6.1: code, id, the length of all with its high byte first, then a value's
// size, the value and the name, or the text alone.
func TestPutKnown(t *testing.T) {
	for _, k := range known {
		putGives(t, k.want, k.c)
	}
}

// P6.1: each id of a byte goes with each of the four codes; the two that have
// a value must have one, the two others must not.
func TestPutEachCode(t *testing.T) {
	for id := range 256 {
		for _, code := range []int{1, 2} {
			begin := string([]byte{byte(code), byte(id), 0})
			putGives(t, begin+"\x06\x01v", api.Chap{Code: code, Id: id, Value: "v"})
			putGives(t, begin+"\x07\x01vn", api.Chap{Code: code, Id: id, Value: "v", Name: "n"})
			putRefuses(t, api.ErrChapForm, api.Chap{Code: code, Id: id})
			putRefuses(t, api.ErrChapForm, api.Chap{Code: code, Id: id, Name: "n"})
		}
		for _, code := range []int{3, 4} {
			begin := string([]byte{byte(code), byte(id), 0})
			putGives(t, begin+"\x04", api.Chap{Code: code, Id: id})
			putGives(t, begin+"\x05n", api.Chap{Code: code, Id: id, Name: "n"})
			putRefuses(t, api.ErrChapForm, api.Chap{Code: code, Id: id, Value: "v"})
			putRefuses(t, api.ErrChapForm, api.Chap{Code: code, Id: id, Value: "v", Name: "n"})
			putRefuses(t, api.ErrChapForm, api.Chap{Code: code, Id: id, Value: mixed(300)})
		}
	}
}

// P6.1: codes other than the four, and ids beyond a byte, are refused with a
// value and without, with a name and without.
func TestPutNumbers(t *testing.T) {
	for _, value := range []string{"", "v"} {
		for _, name := range []string{"", "n"} {
			for code := range 256 {
				if code == 0 || code > 4 {
					putRefuses(t, api.ErrChapForm, api.Chap{Code: code, Id: 1, Value: value, Name: name})
				}
			}
			for _, n := range outside {
				putRefuses(t, api.ErrChapForm, api.Chap{Code: n, Id: 1, Value: value, Name: name})
				for code := range 6 {
					putRefuses(t, api.ErrChapForm, api.Chap{Code: code, Id: n, Value: value, Name: name})
				}
			}
		}
	}
}

// P6.1: values of 1 to 255 bytes go, longer ones do not.
func TestPutValue(t *testing.T) {
	for _, code := range []int{1, 2} {
		for size := 1; size <= 255; size++ {
			value := mixed(size)
			length := string([]byte{byte((size + 9) / 256), byte((size + 9) % 256)})
			want := string([]byte{byte(code), 9}) + length + string([]byte{byte(size)}) + value + "name"
			putGives(t, want, api.Chap{Code: code, Id: 9, Value: value, Name: "name"})
		}
		for _, size := range []int{256, 257, 258, 511, 512, 513, api.MaxFrame, api.MaxText} {
			putRefuses(t, api.ErrChapForm, api.Chap{Code: code, Id: 9, Value: mixed(size)})
		}
	}
}

// beginnings are messages without a name, and how they stand behind the head:
// of each code, with the least value and the greatest.
func beginnings() map[api.Chap]string {
	most := mixed(255)
	return map[api.Chap]string{
		{Code: 1, Id: 9, Value: "v"}:  "\x01v",
		{Code: 1, Id: 9, Value: most}: "\xff" + most,
		{Code: 2, Id: 9, Value: "v"}:  "\x01v",
		{Code: 2, Id: 9, Value: most}: "\xff" + most,
		{Code: 3, Id: 9}:              "",
		{Code: 4, Id: 9}:              "",
	}
}

// P6.1: names up to MaxData bytes go, longer ones do not, whatever the value.
func TestPutName(t *testing.T) {
	for c, ahead := range beginnings() {
		for size := range api.MaxData + 1 {
			c.Name = mixed(size)
			putGives(t, whole(c.Code, ahead+c.Name), c)
		}
		for _, size := range []int{254, 255, 256, 257, 512, api.MaxFrame, api.MaxText} {
			c.Name = mixed(size)
			putRefuses(t, api.ErrChapLong, c)
		}
	}
}

// P6.1, R6: what has no form is told ahead of a long name.
func TestPutOrder(t *testing.T) {
	long := mixed(api.MaxData + 1)
	for _, c := range []api.Chap{
		{Code: 0, Id: 1}, {Code: 5, Id: 1}, {Code: -1, Value: "v"}, {Code: 257, Value: "v"}, {Code: 256 + 3},
		{Code: 1, Id: 256, Value: "v"}, {Code: 2, Id: -1, Value: "v"}, {Code: 3, Id: 256}, {Code: 4, Id: -1},
		{Code: 1}, {Code: 2}, {Code: 1, Value: mixed(256)}, {Code: 2, Value: mixed(256)},
		{Code: 3, Value: "v"}, {Code: 4, Value: "v"},
	} {
		c.Name = long
		putRefuses(t, api.ErrChapForm, c)
	}
}

// P6.1: the messages that are known, with bytes behind them and without.
func TestGetKnown(t *testing.T) {
	for _, k := range known {
		for _, behind := range []string{"", "\x00", "\x01", "\x01\x02", "\xff\xff\xff", mixed(api.MaxText)} {
			getGives(t, k.c, k.want+behind)
		}
	}
}

// P6.1: fewer bytes than a head are refused, whatever they are.
func TestGetShort(t *testing.T) {
	getRefuses(t, api.ErrChapForm, "")
	for b := range 256 {
		one := string([]byte{byte(b)})
		for n := range 3 {
			getRefuses(t, api.ErrChapForm, strings.Repeat(one, n+1))
		}
	}
	for code := range 6 {
		getRefuses(t, api.ErrChapForm, headed(code, 0, "")[:3])
		getRefuses(t, api.ErrChapForm, headed(code, 4, "")[:3])
	}
}

// P6.1: a length below four, or five of the first two codes, is refused,
// whatever stands behind it.
func TestGetLowLength(t *testing.T) {
	for code := range 256 {
		for length := range 5 {
			if length == 4 && (code == 3 || code == 4) {
				continue
			}
			for _, body := range []string{"", "\x00", "\x01", "\x01v", "\x01\x02", mixed(api.MaxText)} {
				getRefuses(t, api.ErrChapForm, headed(code, length, body))
			}
		}
	}
	for _, body := range []string{"", "\x00", "\x01v", mixed(api.MaxText)} {
		getGives(t, api.Chap{Code: 3, Id: 9}, headed(3, 4, body))
		getGives(t, api.Chap{Code: 4, Id: 9}, headed(4, 4, body))
	}
}

// P6.1: a length beyond the end is refused; both its bytes count, the high one
// first.
func TestGetHighLength(t *testing.T) {
	for code := 1; code <= 4; code++ {
		body := "\x01v" + mixed(300)
		for length := 6; length <= 4+len(body); length++ {
			for _, short := range []int{0, 1, 2, length/2 - 2, length - 5} {
				getRefuses(t, api.ErrChapForm, headed(code, length, body[:min(short, length-5)]))
			}
		}
		for _, length := range []int{0x0100, 0x0104, 0x0106, 0x0600, 0x0606, 0x8006, 0xff06, 0xffff} {
			getRefuses(t, api.ErrChapForm, headed(code, length, "\x01v"))
			getRefuses(t, api.ErrChapForm, headed(code, length, "\x01"+mixed(length-6)))
		}
	}
}

// P6.1: codes other than the four are refused, whatever they hold.
func TestGetCode(t *testing.T) {
	for code := range 256 {
		if 1 <= code && code <= 4 {
			continue
		}
		for _, body := range []string{"", "\x00", "\x01v", "\x01vname", mixed(253), mixed(254), mixed(api.MaxFrame)} {
			getRefuses(t, api.ErrChapForm, whole(code, body))
			getRefuses(t, api.ErrChapForm, whole(code, body)+"behind")
		}
	}
}

// P6.1: each size of a value against each number of bytes within the length:
// none, or one that goes beyond the length, is refused, though bytes stand
// behind it.
func TestGetValue(t *testing.T) {
	for _, code := range []int{1, 2} {
		for size := range 256 {
			ahead, value := string([]byte{byte(size)}), mixed(size)
			if size == 0 {
				getRefuses(t, api.ErrChapForm, whole(code, ahead))
				getRefuses(t, api.ErrChapForm, whole(code, ahead+"name"))
				getRefuses(t, api.ErrChapForm, whole(code, ahead)+"behind")
				continue
			}
			getGives(t, api.Chap{Code: code, Id: 9, Value: value}, whole(code, ahead+value))
			getGives(t, api.Chap{Code: code, Id: 9, Value: value, Name: "name"}, whole(code, ahead+value+"name"))
			getGives(t, api.Chap{Code: code, Id: 9, Value: value, Name: "na"}, headed(code, 7+size, ahead+value+"name"))
			for _, left := range []int{0, size / 2, size - 1} {
				getRefuses(t, api.ErrChapForm, whole(code, ahead+value[:left]))
				getRefuses(t, api.ErrChapForm, headed(code, 5+left, ahead+value+"behind"))
			}
		}
	}
}

// P6.1: of the two codes without a value all behind the head is text.
func TestGetText(t *testing.T) {
	for _, code := range []int{3, 4} {
		for _, text := range []string{"\x00", "\x01", "\x00\x00", "\xff", "\x01v", "\x05abc", "ok", "no", mixed(253)} {
			getGives(t, api.Chap{Code: code, Id: 9, Name: text}, whole(code, text))
			getGives(t, api.Chap{Code: code, Id: 9, Name: text}, whole(code, text)+"behind")
		}
	}
}

// P6.1: names up to MaxData bytes come, longer ones do not, up to the longest
// that a length tells.
func TestGetName(t *testing.T) {
	for c, ahead := range beginnings() {
		for _, size := range []int{0, 1, 2, 252, 253} {
			c.Name = mixed(size)
			getGives(t, c, whole(c.Code, ahead+c.Name))
			getGives(t, c, whole(c.Code, ahead+c.Name)+mixed(api.MaxText))
		}
		for _, size := range []int{254, 255, 256, 257, 509, 512, api.MaxFrame, 0xffff - 4 - len(ahead)} {
			s := whole(c.Code, ahead+mixed(size))
			getRefuses(t, api.ErrChapLong, s)
			getRefuses(t, api.ErrChapLong, s+"behind")
			getRefuses(t, api.ErrChapForm, s[:len(s)-1])
		}
	}
}

// P6.1, R6: what has no form is told ahead of a long name.
func TestGetOrder(t *testing.T) {
	long := mixed(600)
	for _, code := range []int{1, 2} {
		getRefuses(t, api.ErrChapForm, whole(code, "\x00"+long))
		getRefuses(t, api.ErrChapForm, headed(code, 6+len(long), "\xff"+long))
	}
	for _, code := range []int{3, 4} {
		getRefuses(t, api.ErrChapForm, headed(code, 5+len(long), long))
	}
	for _, code := range []int{0, 5, 255} {
		getRefuses(t, api.ErrChapForm, whole(code, "\x01v"+long))
	}
}

// P6.2: what was put comes back, bytes behind it or not.
func TestGetOfPut(t *testing.T) {
	chance := rand.New(rand.NewChaCha8([32]byte{6}))
	for n := range 4000 {
		want := api.Chap{Code: n%4 + 1, Id: chance.IntN(256), Name: mixed(chance.IntN(api.MaxData + 1))}
		if want.Code <= 2 {
			want.Value = mixed(chance.IntN(255) + 1)
		}
		s, e := Put(want)
		if e != api.OK {
			t.Fatalf("Put(%s): %d", told(want), e)
		}
		getGives(t, want, s)
		getGives(t, want, s+mixed(n%5))
	}
}

// P6.2, R1: any bytes are either refused or come back as they stood, without
// what stood behind their length.
func TestPutOfGet(t *testing.T) {
	taken := 0
	for n := range 6000 {
		s := mixed(n % 300)
		if n >= 300 {
			s = headed(n%7, 4+n%12, string([]byte{byte(n % 9)})+mixed(n%13))
		}
		c, e := Get(s)
		if e != api.OK {
			continue
		}
		taken++
		length := int(s[2])*256 + int(s[3])
		if x, e := Put(c); e != api.OK || x != s[:length] {
			t.Errorf("Put(Get(%q)) = %q, %d", s, x, e)
		}
	}
	if taken < 1000 {
		t.Errorf("only %d texts were taken", taken)
	}
}

// R4: what is got shares no memory with what it was got of, nor with another
// answer, nor its value with its name; what is put shares none with either.
func TestAnswersAreNew(t *testing.T) {
	for _, s := range []string{whole(1, "\x05valuename"), whole(2, "\x05valuename"), whole(3, "text"), whole(4, "text")} {
		got, _ := Get(s)
		again, _ := Get(s)
		x, _ := Put(got)
		for _, other := range []string{s, x, again.Value, again.Name} {
			if overlap(got.Value, other) || overlap(got.Name, other) {
				t.Errorf("Get(%q) shares memory with %q", s, other)
			}
		}
		if overlap(got.Value, got.Name) || overlap(got.Name, got.Value) {
			t.Errorf("the value and the name of Get(%q) share memory", s)
		}
	}
}

// overlap tells whether a begins within the memory of b.
func overlap(a, b string) bool {
	at, begin := uintptr(unsafe.Pointer(unsafe.StringData(a))), uintptr(unsafe.Pointer(unsafe.StringData(b)))
	return begin <= at && at < begin+uintptr(len(b))
}

// R5: calls at one time tell what calls one by one tell.
func TestAtOneTime(t *testing.T) {
	c := api.Chap{Code: api.ChapResponse, Id: 9, Value: mixed(255), Name: mixed(253)}
	want, _ := Put(c)
	var all sync.WaitGroup
	for range 8 {
		all.Go(func() {
			for range 200 {
				if got, e := Put(c); got != want || e != api.OK {
					t.Errorf("Put tells something else beside other calls: %d", e)
				}
				if got, e := Get(want); got != c || e != api.OK {
					t.Errorf("Get tells something else beside other calls: %d", e)
				}
			}
		})
	}
	all.Wait()
}

func BenchmarkPutAndGet(b *testing.B) {
	for _, n := range []int{0, 64, api.MaxData} {
		c := api.Chap{Code: api.ChapChallenge, Value: mixed(16), Name: mixed(n)}
		b.Run(strconv.Itoa(n), func(b *testing.B) {
			b.SetBytes(int64(n))
			for b.Loop() {
				s, _ := Put(c)
				Get(s)
			}
		})
	}
}
