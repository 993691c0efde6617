package policy

import (
	"fmt"
	"math"
	"math/rand/v2"
	"slices"
	"strings"
	"sync"
	"testing"
	"unsafe"

	"withy/api"
)

// mostMagic is the greatest Magic.
const mostMagic = 1<<32 - 1

// disc20 is the longest Disc.
const disc20 = "\x0012345678901234567\xffz"

// whole is a link that asks for all there is.
var whole = api.Link{Mru: 1500, Magic: 0x01020304, Mrru: 128, Short: true, Disc: "withy", Num: 258}

// wholeAsks are whole's options.
var wholeAsks = []api.Opt{
	{Kind: api.OptMru, Data: "\x05\xdc"}, {Kind: api.OptMagic, Data: "\x01\x02\x03\x04"}, {Kind: api.OptMrru, Data: "\x00\x80"},
	{Kind: api.OptShort}, {Kind: api.OptDisc, Data: "withy"}, {Kind: api.OptLink, Data: "\x01\x02"},
}

// kinds are the six, in their row.
var kinds = []int{api.OptMru, api.OptMagic, api.OptMrru, api.OptShort, api.OptDisc, api.OptLink}

// outside are numbers that no field of a link and no kind may be, some of them
// with low bits that would.
var outside = []int{
	-1, -2, -128, -1500, -65536, math.MinInt32, -1 << 32, 128 - 1<<32, math.MinInt, math.MinInt + 128,
	1 << 32, 1<<32 + 1, 1<<32 + 128, 1<<33 - 1, 1<<48 | 1500, math.MaxInt - 1, math.MaxInt,
}

// units are numbers of OptMru and OptMrru, and whether a side may ask so.
var units = []struct {
	n    int
	good bool
}{
	{0, false}, {1, false}, {126, false}, {127, false}, {128, true}, {129, true}, {255, true}, {256, true}, {1000, true},
	{1499, true}, {1500, true}, {1501, false}, {1756, false}, {2048, false}, {32768, false}, {65408, false}, {65535, false},
}

// notLinks are links that may not be.
func notLinks() []api.Link {
	ls := []api.Link{{Magic: 1 << 32}, {Num: 65536}, {Disc: disc20 + "z"}, {Disc: strings.Repeat("z", api.MaxText)}}
	for _, u := range units {
		if !u.good && u.n != 0 {
			ls = append(ls, api.Link{Mru: u.n}, api.Link{Mrru: u.n})
		}
	}
	for _, n := range outside {
		ls = append(ls, api.Link{Mru: n}, api.Link{Magic: n}, api.Link{Mrru: n}, api.Link{Num: n})
	}
	for _, l := range ls {
		if l.Mru == 0 && l.Mrru == 0 && l.Disc == "" {
			ls = append(ls, api.Link{Mru: 1500, Magic: l.Magic, Mrru: 1500, Short: true, Disc: "z", Num: l.Num})
		}
	}
	return ls
}

// opt gives an option.
func opt(kind int, data string) api.Opt {
	return api.Opt{Kind: kind, Data: data}
}

// two and four give a number as it stands in so many bytes.
func two(n int) string  { return string([]byte{byte(n / 256), byte(n % 256)}) }
func four(n int) string { return two(n/65536) + two(n%65536) }

// right gives a text of a kind that any side may ask by, wrong those of
// lengths that the kind's data may not have.
func right(kind int) string {
	return wholeAsks[slices.Index(kinds, kind)].Data
}

func wrong(kind int) []string {
	var ds []string
	for size := range api.MaxData + 1 {
		fits := size == len(right(kind))
		if kind == api.OptDisc {
			fits = size >= 1 && size <= 20
		}
		if !fits {
			ds = append(ds, strings.Repeat("\x01", size))
		}
	}
	return ds
}

// shown gives the beginning of os, to be read.
func shown(os []api.Opt) string {
	x := ""
	for _, o := range os[:min(len(os), 12)] {
		x += fmt.Sprintf(" %d:%.30q", o.Kind, o.Data)
	}
	return fmt.Sprintf("[%d:%s]", len(os), x)
}

// asks holds Ask to what it gives.
func asks(t *testing.T, l api.Link, want ...api.Opt) {
	t.Helper()
	if os, e := Ask(l); !slices.Equal(os, want) || e != api.OK {
		t.Errorf("Ask(%+v) = %s, %d, want %s", l, shown(os), e, shown(want))
	}
}

// judges holds Judge to a verdict and its options.
func judges(t *testing.T, own api.Link, os []api.Opt, verdict int, want ...api.Opt) {
	t.Helper()
	if v, got, e := Judge(own, os...); v != verdict || !slices.Equal(got, want) || e != api.OK {
		t.Errorf("Judge(%+v, %s) = %d, %s, %d, want %d, %s", own, shown(os), v, shown(got), e, verdict, shown(want))
	}
}

// judgeRefuses holds Judge to its error alone (R2).
func judgeRefuses(t *testing.T, own api.Link, os ...api.Opt) {
	t.Helper()
	if v, got, e := Judge(own, os...); v != 0 || len(got) != 0 || e != api.ErrPolicyForm {
		t.Errorf("Judge(%+v, %s) = %d, %s, %d, want the error %d alone", own, shown(os), v, shown(got), e, api.ErrPolicyForm)
	}
}

// learns holds Learn to what l comes to.
func learns(t *testing.T, l api.Link, code int, want api.Link, os ...api.Opt) {
	t.Helper()
	if got, e := Learn(l, code, os...); got != want || e != api.OK {
		t.Errorf("Learn(%+v, %d, %s) = %+v, %d, want %+v", l, code, shown(os), got, e, want)
	}
}

// learnRefuses holds Learn to its error alone (R2).
func learnRefuses(t *testing.T, l api.Link, code int, os ...api.Opt) {
	t.Helper()
	if got, e := Learn(l, code, os...); got != (api.Link{}) || e != api.ErrPolicyForm {
		t.Errorf("Learn(%+v, %d, %s) = %+v, %d, want the error %d alone", l, code, shown(os), got, e, api.ErrPolicyForm)
	}
}

// takes holds Taken to the link that it gives.
func takes(t *testing.T, want api.Link, os ...api.Opt) {
	t.Helper()
	if got, e := Taken(os...); got != want || e != api.OK {
		t.Errorf("Taken(%s) = %+v, %d, want %+v", shown(os), got, e, want)
	}
}

// takenRefuses holds Taken to its error alone (R2).
func takenRefuses(t *testing.T, os ...api.Opt) {
	t.Helper()
	if got, e := Taken(os...); got != (api.Link{}) || e != api.ErrPolicyForm {
		t.Errorf("Taken(%s) = %+v, %d, want the error %d alone", shown(os), got, e, api.ErrPolicyForm)
	}
}

// P14.1: each field of a link by its option.
func TestAskOrdinary(t *testing.T) {
	asks(t, api.Link{})
	asks(t, whole, wholeAsks...)
	asks(t, api.Link{Mru: 1499}, opt(api.OptMru, "\x05\xdb"))
	asks(t, api.Link{Magic: 7}, opt(api.OptMagic, "\x00\x00\x00\x07"))
	asks(t, api.Link{Mrru: 255}, opt(api.OptMrru, "\x00\xff"))
	asks(t, api.Link{Short: true}, opt(api.OptShort, ""))
	asks(t, api.Link{Disc: "\x00"}, opt(api.OptDisc, "\x00"))
	asks(t, api.Link{Num: 1}, opt(api.OptLink, "\x00\x01"))
	asks(t, api.Link{Num: 256, Mru: 256}, opt(api.OptMru, "\x01\x00"), opt(api.OptLink, "\x01\x00"))
	asks(t, api.Link{Disc: "z", Magic: 0x80000000}, opt(api.OptMagic, "\x80\x00\x00\x00"), opt(api.OptDisc, "z"))
}

// P14.1: each set of fields, in their row.
func TestAskEachSet(t *testing.T) {
	for set := range 64 {
		var l api.Link
		var want []api.Opt
		for i, o := range wholeAsks {
			if set>>i&1 == 1 {
				want = append(want, o)
				l = with(l, o.Kind, whole)
			}
		}
		asks(t, l, want...)
	}
}

// with gives l with from's field of a kind.
func with(l api.Link, kind int, from api.Link) api.Link {
	switch kind {
	case api.OptMru:
		l.Mru = from.Mru
	case api.OptMagic:
		l.Magic = from.Magic
	case api.OptMrru:
		l.Mrru = from.Mrru
	case api.OptShort:
		l.Short = from.Short
	case api.OptDisc:
		l.Disc = from.Disc
	case api.OptLink:
		l.Num = from.Num
	}
	return l
}

// P14.1: the ends of what a link may be.
func TestAskEnds(t *testing.T) {
	for _, u := range units {
		if u.good {
			asks(t, api.Link{Mru: u.n}, opt(api.OptMru, two(u.n)))
			asks(t, api.Link{Mrru: u.n}, opt(api.OptMrru, two(u.n)))
		}
	}
	for _, n := range []int{1, 255, 256, 65535, 65536, 1<<24 - 1, 1 << 24, 1<<31 - 1, 1 << 31, mostMagic - 1, mostMagic} {
		asks(t, api.Link{Magic: n}, opt(api.OptMagic, four(n)))
	}
	for _, n := range []int{1, 127, 1501, 32767, 32768, 65534, 65535} {
		asks(t, api.Link{Num: n}, opt(api.OptLink, two(n)))
	}
	for size := 1; size <= 20; size++ {
		asks(t, api.Link{Disc: disc20[:size]}, opt(api.OptDisc, disc20[:size]))
	}
	asks(t, api.Link{Disc: strings.Repeat("\x00", 20)}, opt(api.OptDisc, strings.Repeat("\x00", 20)))
}

// P14.1: links that may not be, of all calls that are handed one.
func TestLinkForm(t *testing.T) {
	for _, l := range notLinks() {
		if os, e := Ask(l); len(os) != 0 || e != api.ErrPolicyForm {
			t.Errorf("Ask(%+v) = %s, %d, want the error %d alone", l, shown(os), e, api.ErrPolicyForm)
		}
		judgeRefuses(t, l)
		judgeRefuses(t, l, wholeAsks...)
		judgeRefuses(t, l, opt(2, ""))
		judgeRefuses(t, l, opt(-1, ""))
		for _, code := range []int{api.CodeConfNak, api.CodeConfRej, api.CodeConfAck} {
			learnRefuses(t, l, code)
			learnRefuses(t, l, code, wholeAsks...)
		}
	}
}

// P14.2: what a side has nothing against is acked as it is, whatever its row,
// and whatever the side itself asks for, but OptShort.
func TestJudgeAck(t *testing.T) {
	for _, own := range []api.Link{{Short: true}, {Short: true, Magic: 7}, {Short: true, Mru: 128, Mrru: 1500, Disc: "withy", Num: 258}} {
		judges(t, own, nil, api.VerdictAck)
		judges(t, own, []api.Opt{}, api.VerdictAck)
		judges(t, own, wholeAsks, api.VerdictAck, wholeAsks...)
		back := slices.Clone(wholeAsks)
		slices.Reverse(back)
		judges(t, own, back, api.VerdictAck, back...)
		for _, o := range wholeAsks {
			judges(t, own, []api.Opt{o}, api.VerdictAck, o)
		}
	}
	judges(t, whole, []api.Opt{opt(api.OptLink, "\x00\x00")}, api.VerdictAck, opt(api.OptLink, "\x00\x00"))
	judges(t, whole, []api.Opt{opt(api.OptLink, "\xff\xff")}, api.VerdictAck, opt(api.OptLink, "\xff\xff"))
	judges(t, whole, []api.Opt{opt(api.OptDisc, "\x00")}, api.VerdictAck, opt(api.OptDisc, "\x00"))
	judges(t, api.Link{}, []api.Opt{opt(api.OptDisc, disc20)}, api.VerdictAck, opt(api.OptDisc, disc20))
}

// P14.2: options that no packet can hold, wherever they stand, ahead of any
// verdict.
func TestJudgeForm(t *testing.T) {
	for _, kind := range append([]int{256, 256 + api.OptMru, 512, 65535}, outside...) {
		judgeRefuses(t, whole, opt(kind, ""))
		judgeRefuses(t, whole, opt(kind, "\x05\xdc"))
		judgeRefuses(t, api.Link{}, opt(2, ""), opt(api.OptMru, "\x00\x00"), opt(kind, "\x05\xdc"))
		judgeRefuses(t, api.Link{}, opt(kind, ""), opt(api.OptMru, "\x05\xdc"))
	}
	for kind := range 256 {
		for _, size := range []int{api.MaxData + 1, api.MaxData + 2, 256, 256 + 2, 512, api.MaxText} {
			judgeRefuses(t, whole, opt(kind, strings.Repeat("\x01", size)))
		}
		long := opt(kind, strings.Repeat("\x01", api.MaxData))
		judges(t, whole, []api.Opt{long}, api.VerdictRej, long)
	}
	judgeRefuses(t, whole, append(slices.Clone(wholeAsks), opt(api.OptDisc, strings.Repeat("\x01", 254)))...)
}

// P14.2: each kind but the six is rejected.
func TestJudgeKinds(t *testing.T) {
	for kind := range 256 {
		if slices.Contains(kinds, kind) {
			continue
		}
		for _, data := range []string{"", "\x01", "\x05\xdc", "\x01\x02\x03\x04", disc20, strings.Repeat("\xff", api.MaxData)} {
			judges(t, whole, []api.Opt{opt(kind, data)}, api.VerdictRej, opt(kind, data))
			judges(t, whole, append([]api.Opt{opt(kind, data)}, wholeAsks...), api.VerdictRej, opt(kind, data))
		}
	}
}

// P14.2: each length but the right one is rejected.
func TestJudgeLengths(t *testing.T) {
	own := whole
	own.Magic = 7
	for i, kind := range kinds {
		for _, data := range wrong(kind) {
			o := opt(kind, data)
			judges(t, own, []api.Opt{o}, api.VerdictRej, o)
			os := slices.Clone(wholeAsks)
			os[i] = o
			judges(t, own, os, api.VerdictRej, o)
		}
	}
	for size := 1; size <= 20; size++ {
		o := opt(api.OptDisc, disc20[:size])
		judges(t, own, []api.Opt{o}, api.VerdictAck, o)
	}
}

// P14.2: short heads are granted only by a side that asks for them.
func TestJudgeShort(t *testing.T) {
	o := opt(api.OptShort, "")
	for _, own := range []api.Link{{}, {Mru: 1500, Magic: 7, Mrru: 1500, Disc: "withy", Num: 3}} {
		judges(t, own, []api.Opt{o}, api.VerdictRej, o)
		judges(t, own, wholeAsks, api.VerdictRej, o)
		own.Short = true
		judges(t, own, []api.Opt{o}, api.VerdictAck, o)
		judges(t, own, wholeAsks, api.VerdictAck, wholeAsks...)
	}
}

// P14.2: of one kind only the first stays, though that be rejected itself.
func TestJudgeRepeated(t *testing.T) {
	own := api.Link{Short: true}
	for _, o := range wholeAsks {
		judges(t, own, []api.Opt{o, o}, api.VerdictRej, o)
		judges(t, own, []api.Opt{o, o, o}, api.VerdictRej, o, o)
		judges(t, own, slices.Concat(wholeAsks, []api.Opt{o}), api.VerdictRej, o)
		long := opt(o.Kind, strings.Repeat("\x01", 21))
		judges(t, own, []api.Opt{long, o}, api.VerdictRej, long, o)
		judges(t, own, []api.Opt{o, long}, api.VerdictRej, long)
	}
	judges(t, own, slices.Concat(wholeAsks, wholeAsks), api.VerdictRej, wholeAsks...)
	mru, less, none := opt(api.OptMru, two(1500)), opt(api.OptMru, two(128)), opt(api.OptMru, two(0))
	judges(t, own, []api.Opt{mru, less}, api.VerdictRej, less)
	judges(t, own, []api.Opt{less, mru}, api.VerdictRej, mru)
	judges(t, own, []api.Opt{none, mru}, api.VerdictRej, mru)
	judges(t, own, []api.Opt{mru, none}, api.VerdictRej, none)
	// OptMrru and OptLink have data of as many bytes, but are other kinds.
	judges(t, own, []api.Opt{mru, opt(api.OptMrru, two(1500)), opt(api.OptLink, two(1500))}, api.VerdictAck,
		mru, opt(api.OptMrru, two(1500)), opt(api.OptLink, two(1500)))
}

// P14.2: what is rejected comes in its row, and what would be naked and what
// would be acked is not told beside it.
func TestJudgeRejRow(t *testing.T) {
	judges(t, api.Link{Magic: 7}, []api.Opt{
		opt(255, "z"), opt(api.OptMru, two(127)), opt(api.OptShort, ""), opt(api.OptMrru, two(1500)), opt(0, ""),
		opt(api.OptMagic, four(7)), opt(api.OptDisc, ""), opt(api.OptMru, two(1500)), opt(255, "z"), opt(api.OptLink, "\x01"),
	}, api.VerdictRej,
		opt(255, "z"), opt(api.OptShort, ""), opt(0, ""), opt(api.OptDisc, ""), opt(api.OptMru, two(1500)), opt(255, "z"), opt(api.OptLink, "\x01"))
}

// P14.2: units that a side can't have.
func TestJudgeUnits(t *testing.T) {
	for _, kind := range []int{api.OptMru, api.OptMrru} {
		for n := range 65536 {
			o := opt(kind, two(n))
			if n >= 128 && n <= 1500 {
				judges(t, api.Link{}, []api.Opt{o}, api.VerdictAck, o)
			} else {
				judges(t, api.Link{}, []api.Opt{o}, api.VerdictNak, opt(kind, "\x05\xdc"))
			}
		}
		for _, u := range units {
			o := opt(kind, two(u.n))
			for _, own := range []api.Link{{Mru: 128}, {Mrru: 1000}, whole} {
				if u.good {
					judges(t, own, []api.Opt{o}, api.VerdictAck, o)
				} else {
					judges(t, own, []api.Opt{o}, api.VerdictNak, opt(kind, "\x05\xdc"))
				}
			}
		}
	}
}

// P14.2: a Magic of 0, or one's own.
func TestJudgeMagic(t *testing.T) {
	for _, x := range []struct{ own, told int }{
		{0, mostMagic}, {1, mostMagic - 1}, {7, 0xfffffff8}, {0x01020304, 0xfefdfcfb}, {0x0f0f0f0f, 0xf0f0f0f0}, {0xffff, 0xffff0000},
		{0xffff0000, 0xffff}, {1<<31 - 1, 1 << 31}, {1 << 31, 1<<31 - 1}, {mostMagic - 1, 1}, {mostMagic, 1},
	} {
		own := api.Link{Magic: x.own}
		told := opt(api.OptMagic, four(x.told))
		judges(t, own, []api.Opt{opt(api.OptMagic, four(0))}, api.VerdictNak, told)
		judges(t, own, []api.Opt{opt(api.OptMagic, four(x.own))}, api.VerdictNak, told)
		judges(t, own, []api.Opt{told}, api.VerdictAck, told)
		for _, n := range []int{2, 3, 0x04030201, 1 << 24, 0x7fff, 0x8000} {
			other := opt(api.OptMagic, four(n))
			judges(t, own, []api.Opt{other}, api.VerdictAck, other)
		}
	}
}

// P14.2: what is naked comes in its row, and what would be acked is not told
// beside it; OptLink, OptDisc and OptShort are never naked.
func TestJudgeNakRow(t *testing.T) {
	own := api.Link{Short: true, Magic: 7, Mru: 128, Mrru: 256, Disc: "withy", Num: 3}
	link, disc, short := opt(api.OptLink, two(3)), opt(api.OptDisc, "withy"), opt(api.OptShort, "")
	mru, magic, mrru := opt(api.OptMru, two(1501)), opt(api.OptMagic, four(7)), opt(api.OptMrru, two(0))
	toldMru, toldMagic, toldMrru := opt(api.OptMru, two(1500)), opt(api.OptMagic, "\xff\xff\xff\xf8"), opt(api.OptMrru, two(1500))
	judges(t, own, []api.Opt{mru, magic, mrru}, api.VerdictNak, toldMru, toldMagic, toldMrru)
	judges(t, own, []api.Opt{link, mrru, disc, magic, short, mru}, api.VerdictNak, toldMrru, toldMagic, toldMru)
	judges(t, own, []api.Opt{mrru, link, toldMru}, api.VerdictNak, toldMrru)
	judges(t, own, []api.Opt{short, disc, link}, api.VerdictAck, short, disc, link)
	for _, o := range []api.Opt{opt(3, ""), opt(api.OptLink, ""), opt(api.OptMru, two(1500))} {
		judges(t, own, []api.Opt{mru, magic, mrru, o}, api.VerdictRej, o)
	}
}

// P14.3: what is rejected is not asked for any more, whatever its number.
func TestLearnRej(t *testing.T) {
	for set := range 64 {
		var os []api.Opt
		want := whole
		for i, o := range wholeAsks {
			if set>>i&1 == 1 {
				os = append(os, o)
				want = with(want, o.Kind, api.Link{})
			}
		}
		learns(t, whole, api.CodeConfRej, want, os...)
		slices.Reverse(os)
		learns(t, whole, api.CodeConfRej, want, os...)
		learns(t, want, api.CodeConfRej, want, os...)
		learns(t, api.Link{}, api.CodeConfRej, api.Link{}, os...)
	}
	for _, o := range []api.Opt{
		opt(api.OptMru, two(0)), opt(api.OptMru, two(127)), opt(api.OptMru, two(65535)), opt(api.OptMagic, four(0)),
		opt(api.OptMagic, four(mostMagic)), opt(api.OptMrru, two(0)), opt(api.OptMrru, two(1501)), opt(api.OptDisc, disc20),
		opt(api.OptDisc, "\x00"), opt(api.OptLink, two(0)), opt(api.OptLink, two(65535)),
	} {
		learns(t, whole, api.CodeConfRej, with(whole, o.Kind, api.Link{}), o)
	}
}

// P14.3: what is naked is asked for by the number that is told, if it is one.
func TestLearnNakUnits(t *testing.T) {
	for n := range 65536 {
		mru, mrru := whole, whole
		if n >= 128 && n <= 1500 {
			mru.Mru, mrru.Mrru = n, n
		}
		learns(t, whole, api.CodeConfNak, mru, opt(api.OptMru, two(n)))
		learns(t, whole, api.CodeConfNak, mrru, opt(api.OptMrru, two(n)))
	}
}

// P14.3: other numbers, bytes, and short heads.
func TestLearnNakOthers(t *testing.T) {
	for _, n := range []int{1, 7, 255, 256, 65535, 65536, 0x01020304, 0x80000000, mostMagic} {
		want := whole
		want.Magic = n
		learns(t, whole, api.CodeConfNak, want, opt(api.OptMagic, four(n)))
	}
	learns(t, whole, api.CodeConfNak, whole, opt(api.OptMagic, four(0)))
	for n := range 65536 {
		want := whole
		want.Num = n
		learns(t, whole, api.CodeConfNak, want, opt(api.OptLink, two(n)))
	}
	for size := 1; size <= 20; size++ {
		want := whole
		want.Disc = disc20[:size]
		learns(t, whole, api.CodeConfNak, want, opt(api.OptDisc, disc20[:size]))
	}
	learns(t, whole, api.CodeConfNak, whole, opt(api.OptShort, ""))
}

// P14.3: a nak of several, in any row.
func TestLearnNakSeveral(t *testing.T) {
	os := []api.Opt{
		opt(api.OptLink, two(9)), opt(api.OptMru, two(1000)), opt(api.OptShort, ""), opt(api.OptDisc, "z"),
		opt(api.OptMagic, four(mostMagic)), opt(api.OptMrru, two(1400)),
	}
	want := api.Link{Mru: 1000, Magic: mostMagic, Mrru: 1400, Short: true, Disc: "z", Num: 9}
	learns(t, whole, api.CodeConfNak, want, os...)
	slices.Reverse(os)
	learns(t, whole, api.CodeConfNak, want, os...)
	learns(t, whole, api.CodeConfNak, whole)
	learns(t, whole, api.CodeConfRej, whole)
	learns(t, api.Link{}, api.CodeConfNak, api.Link{}, os...)
}

// P14.3: the last of one kind stands.
func TestLearnNakRepeated(t *testing.T) {
	want := whole
	want.Mru = 1000
	learns(t, whole, api.CodeConfNak, want, opt(api.OptMru, two(500)), opt(api.OptMru, two(1000)))
	learns(t, whole, api.CodeConfNak, want, opt(api.OptMru, two(1000)), opt(api.OptMru, two(127)), opt(api.OptMru, two(1501)))
	want = whole
	want.Disc = "b"
	learns(t, whole, api.CodeConfNak, want, opt(api.OptDisc, "a"), opt(api.OptDisc, "b"))
	want = whole
	want.Mrru, want.Magic = 300, 3
	learns(t, whole, api.CodeConfNak, want, opt(api.OptMrru, two(200)), opt(api.OptMagic, four(2)), opt(api.OptMagic, four(3)), opt(api.OptMrru, two(300)))
}

// P14.3: a nak tells a link nothing of what it does not ask for, as it is by
// then: once its Num is 0, no further OptLink counts.
func TestLearnNakUnasked(t *testing.T) {
	for set := range 64 {
		var l, want api.Link
		told := api.Link{Mru: 1000, Magic: 9, Mrru: 1000, Short: true, Disc: "told", Num: 9}
		for i, kind := range kinds {
			if set>>i&1 == 1 {
				l, want = with(l, kind, whole), with(want, kind, told)
			}
		}
		learns(t, l, api.CodeConfNak, want, opt(api.OptMru, two(1000)), opt(api.OptMagic, four(9)), opt(api.OptMrru, two(1000)),
			opt(api.OptShort, ""), opt(api.OptDisc, "told"), opt(api.OptLink, two(9)))
	}
	want := whole
	want.Num = 0
	learns(t, whole, api.CodeConfNak, want, opt(api.OptLink, two(0)), opt(api.OptLink, two(5)))
	learns(t, whole, api.CodeConfNak, want, opt(api.OptLink, two(5)), opt(api.OptLink, two(0)), opt(api.OptLink, two(5)), opt(api.OptLink, two(6)))
	want.Num = 5
	learns(t, whole, api.CodeConfNak, want, opt(api.OptLink, two(6)), opt(api.OptLink, two(5)))
}

// P14.3: other kinds, and other lengths, are let go.
func TestLearnLetGo(t *testing.T) {
	for _, code := range []int{api.CodeConfNak, api.CodeConfRej} {
		for _, kind := range append([]int{0, 2, 3, 4, 6, 16, 20, 22, 24, 255, 256, 256 + api.OptMru, 1 << 16}, outside...) {
			for _, data := range []string{"", "z", two(1000), four(9), strings.Repeat("z", 21), strings.Repeat("z", api.MaxText)} {
				learns(t, whole, code, whole, opt(kind, data))
			}
		}
		for _, kind := range kinds {
			for _, data := range append(wrong(kind), strings.Repeat("\x01", 254), strings.Repeat("\x01", 258), strings.Repeat("\x01", api.MaxText)) {
				learns(t, whole, code, whole, opt(kind, data))
			}
		}
	}
	want := whole
	want.Mru, want.Num = 1000, 9
	learns(t, whole, api.CodeConfNak, want, opt(-1, ""), opt(api.OptMru, two(1000)), opt(api.OptMru, "\x05"), opt(api.OptDisc, ""), opt(api.OptLink, two(9)))
	want.Mru, want.Num = 0, 0
	learns(t, whole, api.CodeConfRej, want, opt(-1, ""), opt(api.OptMru, two(1000)), opt(api.OptMagic, "\x05"), opt(api.OptDisc, ""), opt(api.OptShort, "z"), opt(api.OptLink, two(9)))
}

// P14.3: codes that are neither.
func TestLearnCode(t *testing.T) {
	for _, code := range append([]int{0, 1, 2, 5, 6, 7, 8, 9, 10, 11, 12, 255, 256 + 3, 256 + 4, 1<<32 + 3, 1<<32 + 4, 3 - 1<<32, -3, -4}, outside...) {
		learnRefuses(t, whole, code)
		learnRefuses(t, whole, code, wholeAsks...)
		learnRefuses(t, api.Link{}, code)
	}
}

// P14.3: the link that asks so, in whatever row.
func TestTakenOrdinary(t *testing.T) {
	takes(t, api.Link{})
	takes(t, whole, wholeAsks...)
	for set := range 64 {
		var want api.Link
		var os []api.Opt
		for i, o := range wholeAsks {
			if set>>i&1 == 1 {
				os = append(os, o)
				want = with(want, o.Kind, whole)
			}
		}
		takes(t, want, os...)
		slices.Reverse(os)
		takes(t, want, os...)
	}
}

// P14.3: each number; what comes of it may be a link of 0.
func TestTakenNumbers(t *testing.T) {
	for n := range 65536 {
		mru, mrru, link := opt(api.OptMru, two(n)), opt(api.OptMrru, two(n)), opt(api.OptLink, two(n))
		takes(t, api.Link{Num: n}, link)
		if n == 0 || n >= 128 && n <= 1500 {
			takes(t, api.Link{Mru: n}, mru)
			takes(t, api.Link{Mrru: n}, mrru)
		} else {
			takenRefuses(t, mru)
			takenRefuses(t, mrru)
		}
	}
	for _, n := range []int{0, 1, 255, 65536, 1 << 31, mostMagic} {
		takes(t, api.Link{Magic: n}, opt(api.OptMagic, four(n)))
	}
	for size := 1; size <= 20; size++ {
		takes(t, api.Link{Disc: disc20[:size]}, opt(api.OptDisc, disc20[:size]))
	}
	takes(t, api.Link{Short: true}, opt(api.OptShort, ""))
	takes(t, api.Link{}, opt(api.OptMru, two(0)), opt(api.OptLink, two(0)), opt(api.OptMagic, four(0)), opt(api.OptMrru, two(0)))
}

// P14.3: kinds, lengths and pairs that Taken refuses, alone and among others.
func TestTakenForm(t *testing.T) {
	for kind := range 256 {
		if !slices.Contains(kinds, kind) {
			for _, data := range []string{"", "z", two(1000), four(9)} {
				takenRefuses(t, opt(kind, data))
				takenRefuses(t, append(slices.Clone(wholeAsks), opt(kind, data))...)
			}
		}
	}
	for _, kind := range append([]int{256 + api.OptMru, 256 + api.OptShort}, outside...) {
		takenRefuses(t, opt(kind, ""))
		takenRefuses(t, opt(kind, two(1000)), opt(api.OptMru, two(1000)))
	}
	for i, kind := range kinds {
		for _, data := range append(wrong(kind), strings.Repeat("\x01", 254), strings.Repeat("\x01", 258), strings.Repeat("\x01", api.MaxText)) {
			takenRefuses(t, opt(kind, data))
			os := slices.Clone(wholeAsks)
			os[i].Data = data
			takenRefuses(t, os...)
		}
		takenRefuses(t, wholeAsks[i], wholeAsks[i])
		takenRefuses(t, append(slices.Clone(wholeAsks), wholeAsks[i])...)
	}
	takenRefuses(t, opt(api.OptMru, two(1500)), opt(api.OptMru, two(128)))
	takenRefuses(t, opt(api.OptMru, two(0)), opt(api.OptMru, two(0)))
	takenRefuses(t, opt(api.OptLink, two(0)), opt(api.OptMru, two(127)))
}

// P14.1, P14.3: what a link asks is taken as that link.
func TestTakenOfAsk(t *testing.T) {
	r := rand.New(rand.NewPCG(14, 1))
	for range 20000 {
		l := anyLink(r)
		os, e := Ask(l)
		if e != api.OK {
			t.Fatalf("Ask(%+v): %d", l, e)
		}
		takes(t, l, os...)
	}
}

// P14.2, P14.3: two sides that judge and learn from one another come to an
// agreement, each by what it has of its own.
func TestAgreement(t *testing.T) {
	r := rand.New(rand.NewPCG(14, 2))
	for range 5000 {
		a, b := anyLink(r), anyLink(r)
		if a.Magic == b.Magic {
			continue
		}
		for try := 0; ; try++ {
			os, _ := Ask(a)
			v, answer, e := Judge(b, os...)
			if e != api.OK || try > 3 {
				t.Fatalf("%+v of %+v: %d after %d tries", a, b, e, try)
			}
			if v == api.VerdictAck {
				takes(t, a, answer...)
				break
			}
			code := api.CodeConfNak
			if v == api.VerdictRej {
				code = api.CodeConfRej
			}
			a, _ = Learn(a, code, answer...)
		}
	}
}

// anyLink gives a link that may be.
func anyLink(r *rand.Rand) api.Link {
	var l api.Link
	full := api.Link{
		Mru: 128 + r.IntN(1373), Magic: int(r.Uint32()), Mrru: 128 + r.IntN(1373), Short: true,
		Disc: disc20[:r.IntN(21)], Num: r.IntN(65536),
	}
	if r.IntN(4) == 0 {
		full.Magic = r.IntN(3)
	}
	for _, kind := range kinds {
		if r.IntN(3) > 0 {
			l = with(l, kind, full)
		}
	}
	return l
}

// anyOpts gives options, most of them of kinds and lengths that are right, or
// nearly so.
func anyOpts(r *rand.Rand, own api.Link) []api.Opt {
	var os []api.Opt
	for range r.IntN(9) {
		kind := kinds[r.IntN(len(kinds))]
		var data string
		switch kind {
		case api.OptMru, api.OptMrru:
			data = two(units[r.IntN(len(units))].n)
		case api.OptMagic:
			data = four([]int{0, own.Magic, 1, 7, mostMagic}[r.IntN(5)])
		case api.OptDisc:
			data = strings.Repeat("d", 1+r.IntN(20))
		case api.OptLink:
			data = two(r.IntN(3))
		}
		switch r.IntN(30) {
		case 0:
			kind = r.IntN(256)
		case 1:
			data += "z"
		case 2:
			data = data[:len(data)/2]
		}
		os = append(os, opt(kind, data))
	}
	return os
}

// modelJudge is the chapter's judgement, by another's hand: kind by kind.
func modelJudge(own api.Link, os []api.Opt) (int, []api.Opt) {
	var rej, nak []api.Opt
	for i, o := range os {
		n := 0
		for _, c := range []byte(o.Data) {
			n = (n*256 + int(c)) % (1 << 32)
		}
		bad := opts(os[:i], o.Kind)
		switch o.Kind {
		case 1, 17:
			bad = bad || len(o.Data) != 2
			if n < 128 || n > 1500 {
				nak = append(nak, opt(o.Kind, "\x05\xdc"))
			}
		case 5:
			bad = bad || len(o.Data) != 4
			if n == 0 || n == own.Magic {
				nak = append(nak, opt(5, four(max(mostMagic-own.Magic, 1))))
			}
		case 18:
			bad = bad || len(o.Data) != 0 || !own.Short
		case 19:
			bad = bad || len(o.Data) < 1 || len(o.Data) > 20
		case 23:
			bad = bad || len(o.Data) != 2
		default:
			bad = true
		}
		if bad {
			rej = append(rej, o)
		}
	}
	if rej != nil {
		return api.VerdictRej, rej
	}
	if nak != nil {
		return api.VerdictNak, nak
	}
	return api.VerdictAck, os
}

// opts tells whether one of os is of a kind.
func opts(os []api.Opt, kind int) bool {
	return slices.ContainsFunc(os, func(o api.Opt) bool { return o.Kind == kind })
}

// P14.2: many judgements against another's hand; each verdict comes often.
func TestJudgeModel(t *testing.T) {
	r := rand.New(rand.NewPCG(14, 3))
	var count [3]int
	for range 60000 {
		own := anyLink(r)
		os := anyOpts(r, own)
		verdict, want := modelJudge(own, os)
		judges(t, own, os, verdict, want...)
		count[verdict]++
	}
	for verdict, n := range count {
		if n < 3000 {
			t.Errorf("verdict %d came only %d times", verdict, n)
		}
	}
}

// R4: what is handed in is not changed, its spare room neither.
func TestArgumentsStay(t *testing.T) {
	spare := append(slices.Clone(wholeAsks), opt(api.OptMru, two(0)), opt(99, "spare"))
	before := slices.Clone(spare)
	for _, os := range [][]api.Opt{spare[:0], spare[:1], spare[:6], spare[:7], spare} {
		for _, own := range []api.Link{{}, whole, {Short: true}} {
			Judge(own, os...)
			Learn(own, api.CodeConfNak, os...)
			Learn(own, api.CodeConfRej, os...)
			Taken(os...)
			if !slices.Equal(spare, before) {
				t.Fatalf("%s became %s", shown(before), shown(spare))
			}
		}
	}
}

// overlap tells whether a begins within the memory of b.
func overlap(a, b string) bool {
	at, begin := uintptr(unsafe.Pointer(unsafe.StringData(a))), uintptr(unsafe.Pointer(unsafe.StringData(b)))
	return begin <= at && at < begin+uintptr(len(b))
}

// R4: what is answered stands in memory of its own.
func TestAnswersAreNew(t *testing.T) {
	disc := strings.Clone("some bytes")
	os := []api.Opt{opt(api.OptDisc, disc), opt(api.OptMru, strings.Clone(two(1000)))}
	own := api.Link{Disc: disc, Short: true}
	_, acked, _ := Judge(own, os...)
	_, again, _ := Judge(own, os...)
	acked[0].Kind, acked[1].Data = 77, "other"
	if os[0].Kind != api.OptDisc || os[1].Data != two(1000) || again[0].Kind != api.OptDisc || again[1].Data != two(1000) {
		t.Error("what Judge acks shares its list with another")
	}
	for i := range os {
		if overlap(again[i].Data, os[i].Data) {
			t.Errorf("option %d of what Judge acks shares its data", i)
		}
	}
	bad := []api.Opt{opt(99, disc), opt(98, disc)}
	_, rejected, _ := Judge(own, bad...)
	if overlap(rejected[0].Data, disc) || overlap(rejected[0].Data, rejected[1].Data) {
		t.Error("what Judge rejects shares its data")
	}
	rejected[0].Kind = 77
	if bad[0].Kind != 99 {
		t.Error("what Judge rejects shares its list")
	}
	asked, _ := Ask(own)
	learned, _ := Learn(own, api.CodeConfNak, os...)
	same, _ := Learn(own, api.CodeConfNak)
	taken, _ := Taken(os...)
	for i, s := range []string{asked[1].Data, learned.Disc, same.Disc, taken.Disc} {
		if s != disc || overlap(s, disc) {
			t.Errorf("answer %d has %q for %q, or shares its memory", i, s, disc)
		}
	}
}

// R5: nothing is kept from one call to the next, and several may call at one
// time.
func TestAtOneTime(t *testing.T) {
	var all sync.WaitGroup
	for n := range 8 {
		all.Go(func() {
			r := rand.New(rand.NewPCG(14, uint64(n)))
			for range 500 {
				own := anyLink(r)
				os := anyOpts(r, own)
				verdict, want := modelJudge(own, os)
				judges(t, own, os, verdict, want...)
				learns(t, whole, api.CodeConfRej, api.Link{}, wholeAsks...)
				takes(t, whole, wholeAsks...)
				asks(t, whole, wholeAsks...)
			}
		})
	}
	all.Wait()
}

// Many options end in a time that their number explains.
func TestSize(t *testing.T) {
	const count = 200000
	many := make([]api.Opt, count)
	for i := range many {
		many[i] = opt(i%256, two(1000))
	}
	v, os, e := Judge(whole, many...)
	// The first of OptMru, of OptMrru, of OptDisc and of OptLink stand.
	if v != api.VerdictRej || len(os) != count-4 || e != api.OK {
		t.Errorf("Judge of %d options: %d, %d options, %d", count, v, len(os), e)
	}
	for i := range many {
		many[i] = opt(api.OptLink, two(1+i%65535))
	}
	want := whole
	want.Num = 1 + (count-1)%65535
	learns(t, whole, api.CodeConfNak, want, many...)
	for i := range many {
		many[i] = opt(i, two(1000))
	}
	takenRefuses(t, many...)
}

func BenchmarkJudge(b *testing.B) {
	own := api.Link{Short: true}
	for b.Loop() {
		Judge(own, wholeAsks...)
	}
}

func BenchmarkLearn(b *testing.B) {
	for b.Loop() {
		Learn(whole, api.CodeConfNak, wholeAsks...)
	}
}
