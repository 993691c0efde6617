package fcs

import (
	"math/bits"
	"strconv"
	"strings"
	"sync"
	"testing"
	"unsafe"

	"withy/api"
)

// known are sums of short texts; that of the nine digits is the one by which
// catalogues of sums tell this one from its kin.
func known() map[string]int {
	return map[string]int{
		"":          0,
		"\x00":      0xf078,
		"a":         0x82f7,
		"123456789": 0x906e,
	}
}

// byPolynomial sums by another way than the package: unreflected, x^16 + x^12
// + x^5 + 1, each byte turned round ahead of it and the sum behind.
func byPolynomial(s string) int {
	sum := uint16(0xffff)
	for _, b := range []byte(s) {
		sum ^= uint16(bits.Reverse8(b)) << 8
		for range 8 {
			top := sum >> 15
			sum <<= 1
			if top == 1 {
				sum ^= 0x1021
			}
		}
	}
	return int(^bits.Reverse16(sum))
}

// texts are ordinary ones, all of one byte, and long ones.
func texts() []string {
	var list []string
	for b := range 256 {
		list = append(list, string([]byte{byte(b)}))
	}
	for _, n := range []int{0, 2, 3, 15, 16, 17, 255, 256, 257, api.MaxFrame, api.MaxText} {
		list = append(list, strings.Repeat("\x00", n), strings.Repeat("\xff", n), mixed(n))
	}
	return append(list, "withy", "\x7e\x7d\x5e", "gr\u00fc\u00df", "\x80\xc0\xff")
}

// mixed gives n bytes of many values.
func mixed(n int) string {
	b := make([]byte, n)
	state := uint32(n) + 1
	for i := range b {
		state = state*1664525 + 1013904223
		b[i] = byte(state >> 24)
	}
	return string(b)
}

// P1.1: the sums that are known.
func TestOfKnown(t *testing.T) {
	for s, want := range known() {
		if got := Of(s); got != want {
			t.Errorf("Of(%q) = %#x, want %#x", s, got, want)
		}
	}
}

// P1.1: the sums of any bytes, of any length.
func TestOfByPolynomial(t *testing.T) {
	for _, s := range texts() {
		if got, want := Of(s), byPolynomial(s); got != want {
			t.Errorf("Of(%d bytes, %.8q) = %#x, want %#x", len(s), s, got, want)
		}
	}
}

// P1.1: the low byte stands first.
func TestPutKnown(t *testing.T) {
	for s, want := range map[string]string{
		"":          "\x00\x00",
		"\x00":      "\x00\x78\xf0",
		"a":         "a\xf7\x82",
		"123456789": "123456789\x6e\x90",
	} {
		if got := Put(s); got != want {
			t.Errorf("Put(%q) = %q, want %q", s, got, want)
		}
	}
}

// P1.1: with its sum behind it each text comes to RFC 1662's good sum, 0xf0b8
// ahead of the turn of all bits.
func TestPutGoodSum(t *testing.T) {
	for _, s := range texts() {
		x := Put(s)
		if len(x) != len(s)+2 || x[:len(s)] != s {
			t.Fatalf("Put(%d bytes) has %d bytes, or another beginning", len(s), len(x))
		}
		if got := byPolynomial(x); got != 0x0f47 {
			t.Errorf("the sum of Put(%d bytes, %.8q) = %#x", len(s), s, got)
		}
	}
}

// P1.2: what was put comes back.
func TestCheckOfPut(t *testing.T) {
	for _, s := range texts() {
		if got, e := Check(Put(s)); got != s || e != api.OK {
			t.Errorf("Check(Put(%d bytes, %.8q)) = %d bytes, %d", len(s), s, len(got), e)
		}
	}
}

// P1.2: fewer than two bytes are no sum, two are one of nothing.
func TestCheckShort(t *testing.T) {
	for _, s := range append(texts()[:256], "") {
		if got, e := Check(s); got != "" || e != api.ErrFcsShort {
			t.Errorf("Check(%q) = %q, %d", s, got, e)
		}
	}
	for a := range 256 {
		for b := range 256 {
			want := api.ErrFcsBad
			if a == 0 && b == 0 {
				want = api.OK
			}
			s := string([]byte{byte(a), byte(b)})
			if got, e := Check(s); got != "" || e != want {
				t.Fatalf("Check(%q) = %q, %d, want %d", s, got, e, want)
			}
		}
	}
}

// P1.2: each bit counts, in the text and in the sum.
func TestCheckEachBit(t *testing.T) {
	for _, s := range []string{"", "a", "123456789", mixed(64)} {
		b := []byte(Put(s))
		for i := range 8 * len(b) {
			b[i/8] ^= 1 << (i % 8)
			if got, e := Check(string(b)); got != "" || e != api.ErrFcsBad {
				t.Errorf("Check(Put(%q), bit %d turned) = %q, %d", s, i, got, e)
			}
			b[i/8] ^= 1 << (i % 8)
		}
	}
}

// P1.2: a sum that is changed about, is not turned, or lacks a byte is bad.
func TestCheckBad(t *testing.T) {
	for _, s := range []string{
		"123456789\x90\x6e",
		"123456789\x91\x6f",
		"123456789\x6e",
		"123456789\x6e\x90\x00",
		"\x6e\x90123456789",
		"123456798\x6e\x90",
		"\xff\xff",
	} {
		if got, e := Check(s); got != "" || e != api.ErrFcsBad {
			t.Errorf("Check(%q) = %q, %d", s, got, e)
		}
	}
}

// R4: answers are new memory.
func TestAnswersAreNew(t *testing.T) {
	x := Put(mixed(40))
	got, _ := Check(x)
	again, _ := Check(x)
	if at := unsafe.StringData(got); at == unsafe.StringData(x) || at == unsafe.StringData(again) {
		t.Error("Check's answer shares memory")
	}
}

// R5: calls at one time tell what calls one by one tell.
func TestAtOneTime(t *testing.T) {
	s := mixed(api.MaxFrame)
	want := Put(s)
	var all sync.WaitGroup
	for range 8 {
		all.Go(func() {
			for range 50 {
				if got := Put(s); got != want {
					t.Error("Put tells something else beside other calls")
				}
				if got, e := Check(want); got != s || e != api.OK {
					t.Errorf("Check tells something else beside other calls: %d", e)
				}
			}
		})
	}
	all.Wait()
}

func BenchmarkOf(b *testing.B) {
	for _, n := range []int{8, 64, api.MaxPacket, api.MaxText} {
		s := mixed(n)
		b.Run(strconv.Itoa(n), func(b *testing.B) {
			b.SetBytes(int64(n))
			for b.Loop() {
				Of(s)
			}
		})
	}
}
