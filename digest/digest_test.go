package digest

import (
	"crypto/md5"
	"encoding/hex"
	"math"
	"math/rand/v2"
	"strings"
	"sync"
	"testing"

	"withy/api"
)

// ids are numbers, each with the byte that it comes to modulo 256.
var ids = []struct {
	id   int
	byte byte
}{
	{0, 0}, {1, 1}, {127, 127}, {128, 128}, {195, 195}, {255, 255},
	{256, 0}, {257, 1}, {511, 255}, {512, 0}, {1000, 232}, {65536 + 128, 128},
	{1<<32 + 7, 7}, {1<<40 - 1, 255}, {math.MaxInt, 255}, {math.MaxInt - 1, 254},
	{-1, 255}, {-2, 254}, {-128, 128}, {-255, 1}, {-256, 0}, {-257, 255},
	{-1 << 32, 0}, {7 - 1<<32, 7}, {math.MinInt, 0}, {math.MinInt + 1, 1},
}

// gives holds Of to the digest that it gives of s, in hexadecimal figures.
func gives(t *testing.T, s, want string) {
	t.Helper()
	if got := hex.EncodeToString([]byte(Of(s))); got != want {
		t.Errorf("Of(%.80q), %d bytes, = %s, want %s", s, len(s), got, want)
	}
}

// chaps holds Chap to the digest that it gives, in hexadecimal figures.
func chaps(t *testing.T, id int, secret, challenge, want string) {
	t.Helper()
	if got := hex.EncodeToString([]byte(Chap(id, secret, challenge))); got != want {
		t.Errorf("Chap(%d, %.80q, %.80q) = %s, want %s", id, secret, challenge, got, want)
	}
}

// sumOf is the MD5 of s by another's hand, in hexadecimal figures.
func sumOf(s string) string {
	x := md5.Sum([]byte(s))
	return hex.EncodeToString(x[:])
}

// anyBytes gives a text of so many bytes, of all kinds.
func anyBytes(r *rand.Rand, size int) string {
	b := make([]byte, size)
	for i := range b {
		b[i] = byte(r.Uint32())
	}
	return string(b)
}

// P13.1: the answers that RFC 1321 lists.
func TestListed(t *testing.T) {
	gives(t, "", "d41d8cd98f00b204e9800998ecf8427e")
	gives(t, "a", "0cc175b9c0f1b6a831c399e269772661")
	gives(t, "abc", "900150983cd24fb0d6963f7d28e17f72")
	gives(t, "message digest", "f96b697d7cb7938d525a2f31aaf161d0")
	gives(t, "abcdefghijklmnopqrstuvwxyz", "c3fcd3d76192e4007dfb496cca67e13b")
	gives(t, "ABCDEFGHIJKLMNOPQRSTUVWXYZabcdefghijklmnopqrstuvwxyz0123456789", "d174ab98d277d9f5a5611c2c9f419d9f")
	gives(t, strings.Repeat("1234567890", 8), "57edf4a22be3c955ac49da2e2107b67a")
}

// P13.1: 16 bytes, not their figures.
func TestSixteenBytes(t *testing.T) {
	if got, want := Of(""), "\xd4\x1d\x8c\xd9\x8f\x00\xb2\x04\xe9\x80\x09\x98\xec\xf8\x42\x7e"; got != want {
		t.Errorf("Of(\"\") = %q, want %q", got, want)
	}
	for size := range 200 {
		s := strings.Repeat("w", size)
		if of, chap := Of(s), Chap(size, s, s); len(of) != 16 || len(chap) != 16 {
			t.Errorf("of %d bytes Of gives %d, Chap %d, want 16", size, len(of), len(chap))
		}
	}
}

// P13.1: where a last block is just full, and where another is needed.
func TestBlockEnds(t *testing.T) {
	gives(t, strings.Repeat("a", 55), "ef1772b6dff9a122358552954ad0df65")
	gives(t, strings.Repeat("a", 56), "3b0c8ac703f828b04c6c197006d17218")
	gives(t, strings.Repeat("a", 57), "652b906d60af96844ebd21b674f35e93")
	gives(t, strings.Repeat("a", 63), "b06521f39153d618550606be297466d5")
	gives(t, strings.Repeat("a", 64), "014842d480b571495a4a0363793f7367")
	gives(t, strings.Repeat("a", 65), "c743a45e0d2e6a95cb859adae0248435")
}

// P13.1: texts of each size over many blocks, of all bytes, against another's
// hand.
func TestEachSize(t *testing.T) {
	r := rand.New(rand.NewPCG(13, 1))
	for size := range 1100 {
		s := anyBytes(r, size)
		gives(t, s, sumOf(s))
		gives(t, strings.Repeat("\x00", size), sumOf(strings.Repeat("\x00", size)))
		gives(t, strings.Repeat("\xff", size), sumOf(strings.Repeat("\xff", size)))
		gives(t, strings.Repeat("\x80", size), sumOf(strings.Repeat("\x80", size)))
	}
}

// P13.1: each byte counts, and each place.
func TestEachByte(t *testing.T) {
	for b := range 256 {
		gives(t, string([]byte{byte(b)}), sumOf(string([]byte{byte(b)})))
	}
	for place := range 130 {
		s := strings.Repeat("w", place) + "\x01" + strings.Repeat("w", 129-place)
		gives(t, s, sumOf(s))
	}
}

// P13.1: texts that are no UTF-8 stand as their bytes.
func TestNoRunes(t *testing.T) {
	for _, s := range []string{"\x80", "\xff\xfe", "\xc3", "é", "\xc3\x28", "\xed\xa0\x80", "a\x00b\x00", "\xf4\x90\x80\x80"} {
		gives(t, s, sumOf(s))
		chaps(t, 7, s, s, sumOf("\x07"+s+s))
	}
}

// P13.1: great texts; the length in bits outgrows two bytes, and three.
func TestGreat(t *testing.T) {
	r := rand.New(rand.NewPCG(13, 2))
	for _, size := range []int{8191, 8192, 8193, api.MaxText - 1, api.MaxText, api.MaxText + 1, 1 << 21, 1<<21 + 60} {
		s := anyBytes(r, size)
		gives(t, s, sumOf(s))
	}
}

// P13.1: a length in bits that outgrows four bytes, by what ends the text, as
// half a gigabyte is much to sum up.
func TestBeyondFourBytes(t *testing.T) {
	if got, want := ending(1<<29+55), "\x80"+"\xb8\x01\x00\x00\x01\x00\x00\x00"; got != want {
		t.Errorf("ending(1<<29+55) = %q, want %q", got, want)
	}
	if got, want := ending(1<<31-1-8), "\x80"+"\xb8\xff\xff\xff\x03\x00\x00\x00"; got != want {
		t.Errorf("ending(1<<31-9) = %q, want %q", got, want)
	}
}

// P13.1: Chap by answers worked out elsewhere.
func TestChapListed(t *testing.T) {
	chaps(t, 0, "", "", "93b885adfe0da089cdf634904fd59f71")
	chaps(t, 'a', "b", "c", "900150983cd24fb0d6963f7d28e17f72")
	chaps(t, 'm', "essage ", "digest", "f96b697d7cb7938d525a2f31aaf161d0")
	chaps(t, 'a'-256, "", "", "0cc175b9c0f1b6a831c399e269772661")
	chaps(t, 'a', "bcdefghijklm", "nopqrstuvwxyz", "c3fcd3d76192e4007dfb496cca67e13b")
}

// P13.1: Chap is Of of the id's byte, the secret and the challenge, in that
// row.
func TestChapIsOf(t *testing.T) {
	for _, secret := range []string{"", "s", "secret", strings.Repeat("s", api.MaxSecret), "\x00\xff", strings.Repeat("\xfe", 300)} {
		for _, challenge := range []string{"", "c", "challenge", strings.Repeat("c", 255), "\xff\x00", strings.Repeat("\x01", 300)} {
			for _, x := range ids {
				all := string([]byte{x.byte}) + secret + challenge
				chaps(t, x.id, secret, challenge, sumOf(all))
				if Chap(x.id, secret, challenge) != Of(all) {
					t.Errorf("Chap(%d, %.80q, %.80q) is another than Of of its parts", x.id, secret, challenge)
				}
			}
		}
	}
}

// P13.1: the id is one byte, modulo 256, from 128 on and below 0 too.
func TestChapId(t *testing.T) {
	for id := -1024; id < 1024; id++ {
		b := ((id % 256) + 256) % 256
		chaps(t, id, "secret", "challenge", sumOf(string([]byte{byte(b)})+"secretchallenge"))
	}
}

// P13.1: secrets and challenges of each size together come to each end of a
// block.
func TestChapSizes(t *testing.T) {
	r := rand.New(rand.NewPCG(13, 3))
	for secret := range 80 {
		for challenge := range 80 {
			s, c := anyBytes(r, secret), anyBytes(r, challenge)
			chaps(t, secret, s, c, sumOf(string([]byte{byte(secret)})+s+c))
		}
	}
	s, c := anyBytes(r, api.MaxText), anyBytes(r, api.MaxText)
	chaps(t, 255, s, c, sumOf("\xff"+s+c))
}

// P13.1: id, secret and challenge don't stand in for one another.
func TestChapParts(t *testing.T) {
	base := Chap(7, "secret", "challenge")
	for _, other := range []string{
		Chap(8, "secret", "challenge"), Chap(7, "secreT", "challenge"), Chap(7, "secret", "challengE"),
		Chap(7, "challenge", "secret"), Chap(7, "", "challenge"), Chap(7, "secret", ""), Of("secretchallenge"), Of("7secretchallenge"),
	} {
		if other == base {
			t.Errorf("another id, secret or challenge gives %x too", base)
		}
	}
	if Chap(7, "secretc", "hallenge") != base {
		t.Error("the parts stand one behind another, with nothing between")
	}
}

// P13.1: the constants are what the chapter says they are, and the place of
// each word that a round takes is taken once.
func TestSines(t *testing.T) {
	for i, sine := range sines {
		if want := uint32(math.Floor(1 << 32 * math.Abs(math.Sin(float64(i+1))))); sine != want {
			t.Errorf("constant %d is %08x, want %08x", i, sine, want)
		}
	}
	for round := range 4 {
		var taken [16]bool
		for i := range 16 {
			taken[place(round, 16*round+i)] = true
		}
		for p, is := range taken {
			if !is {
				t.Errorf("round %d leaves word %d out", round, p)
			}
		}
	}
}

// R5: nothing is kept from one call to the next.
func TestNothingIsKept(t *testing.T) {
	for range 3 {
		gives(t, "abc", "900150983cd24fb0d6963f7d28e17f72")
		chaps(t, 'a', "b", "c", "900150983cd24fb0d6963f7d28e17f72")
		gives(t, "", "d41d8cd98f00b204e9800998ecf8427e")
		gives(t, strings.Repeat("a", 56), "3b0c8ac703f828b04c6c197006d17218")
	}
}

// R5: several may call at one time.
func TestAtOneTime(t *testing.T) {
	var all sync.WaitGroup
	for n := range 8 {
		all.Go(func() {
			r := rand.New(rand.NewPCG(13, uint64(n)))
			for range 300 {
				s, c := anyBytes(r, r.IntN(150)), anyBytes(r, r.IntN(150))
				gives(t, s, sumOf(s))
				chaps(t, n, s, c, sumOf(string([]byte{byte(n)})+s+c))
			}
		})
	}
	all.Wait()
}

// A text of MaxText bytes, over and over, ends in a time that its size
// explains.
func TestSize(t *testing.T) {
	s := strings.Repeat("w", api.MaxText)
	want := sumOf(s)
	for range 100 {
		gives(t, s, want)
	}
}

func BenchmarkOf(b *testing.B) {
	s := strings.Repeat("w", api.MaxText)
	b.SetBytes(int64(len(s)))
	for b.Loop() {
		Of(s)
	}
}

func BenchmarkChap(b *testing.B) {
	for b.Loop() {
		Chap(7, "a secret", "a challenge of some bytes")
	}
}
