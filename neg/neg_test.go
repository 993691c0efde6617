package neg

import (
	"fmt"
	"math"
	"math/rand/v2"
	"reflect"
	"slices"
	"strings"
	"sync"
	"testing"
	"unsafe"

	"withy/api"
	"withy/control"
	"withy/fsm"
	"withy/policy"
)

// whole is a link that asks for all there is.
var whole = api.Link{Mru: 1500, Magic: 0x01020304, Mrru: 128, Short: true, Disc: "withy", Num: 258}

// wholeAsks are whole's options.
var wholeAsks = []api.Opt{
	{Kind: api.OptMru, Data: "\x05\xdc"}, {Kind: api.OptMagic, Data: "\x01\x02\x03\x04"}, {Kind: api.OptMrru, Data: "\x00\x80"},
	{Kind: api.OptShort}, {Kind: api.OptDisc, Data: "withy"}, {Kind: api.OptLink, Data: "\x01\x02"},
}

// some is a link that asks for two things.
var some = api.Link{Mru: 1000, Magic: 7}

// someAsks are some's options.
var someAsks = []api.Opt{{Kind: api.OptMru, Data: "\x03\xe8"}, {Kind: api.OptMagic, Data: "\x00\x00\x00\x07"}}

// Options that a side takes, wishes otherwise and rejects, if it is some.
var (
	good = api.Opt{Kind: api.OptMru, Data: "\x01\x00"}
	low  = api.Opt{Kind: api.OptMru, Data: "\x00\x7f"}
	most = api.Opt{Kind: api.OptMru, Data: "\x05\xdc"}
	odd  = api.Opt{Kind: 77, Data: "x"}
)

// none are numbers that are no event, some of them with low bits that would be.
var none = []int{-1, -2, -16, 16, 17, 100, 255, 256, 257, 1 << 16, 1 << 32, 1<<32 | 4, math.MaxInt, math.MinInt, math.MinInt + 1}

// side gives a new side.
func side(t *testing.T, l api.Link, tries int) *Neg {
	t.Helper()
	n, e := New(l, tries)
	if n == nil || e != api.OK {
		t.Fatalf("New(%+v, %d) = %v, %d", l, tries, n, e)
	}
	return n
}

// at gives a side in a state, by the shortest way from New on: but for
// StateStopped it has tries left.
func at(t *testing.T, l api.Link, state int) *Neg {
	t.Helper()
	n := side(t, l, 3)
	ways := [][]int{
		api.StateStarting: {api.EventOpen},
		api.StateClosed:   {api.EventUp},
		api.StateStopped:  {api.EventOpen, api.EventUp, api.EventTimeMore, api.EventTimeMore, api.EventTimeMore},
		api.StateClosing:  {api.EventOpen, api.EventUp, api.EventClose},
		api.StateStopping: {api.EventOpen, api.EventUp, api.EventClose, api.EventOpen},
		api.StateReqSent:  {api.EventOpen, api.EventUp},
		api.StateAckRcvd:  {api.EventOpen, api.EventUp},
		api.StateAckSent:  {api.EventOpen, api.EventUp},
		api.StateOpened:   {api.EventOpen, api.EventUp},
	}
	for _, event := range ways[state] {
		n.Do(event)
	}
	if state == api.StateAckRcvd || state == api.StateOpened {
		n.Take(api.Packet{Code: api.CodeConfAck, Id: n.last.id, Opts: asked(t, l)})
	}
	if state == api.StateAckSent || state == api.StateOpened {
		n.Take(api.Packet{Code: api.CodeConfReq, Id: 200, Opts: []api.Opt{good}})
	}
	if n.State() != state {
		t.Fatalf("a side is in state %d, not %d", n.State(), state)
	}
	return n
}

// asked gives the options by which l asks.
func asked(t *testing.T, l api.Link) []api.Opt {
	t.Helper()
	os, e := policy.Ask(l)
	if e != api.OK {
		t.Fatalf("Ask(%+v) = %d", l, e)
	}
	return os
}

// same tells whether packets are the same; no list and an empty one are.
func same(a, b []api.Packet) bool {
	return slices.EqualFunc(a, b, func(p, q api.Packet) bool {
		return p.Code == q.Code && p.Id == q.Id && p.Data == q.Data && slices.Equal(p.Opts, q.Opts)
	})
}

// shown gives the beginning of each of ps, to be read.
func shown(ps ...api.Packet) string {
	x := ""
	for _, p := range ps {
		x += fmt.Sprintf(" {%d %d %.60q %.60q}", p.Code, p.Id, fmt.Sprint(p.Opts), p.Data)
	}
	return "[" + x + " ]"
}

// does holds Do to the packets that it gives, and to the state behind it.
func does(t *testing.T, n *Neg, event, state int, want ...api.Packet) {
	t.Helper()
	if ps, e := n.Do(event); !same(ps, want) || e != api.OK {
		t.Errorf("Do(%d) = %s, %d, want %s", event, shown(ps...), e, shown(want...))
	}
	isIn(t, n, state)
}

// takes holds Take to the packets that it gives, and to the state behind it.
func takes(t *testing.T, n *Neg, p api.Packet, state int, want ...api.Packet) {
	t.Helper()
	if ps, e := n.Take(p); !same(ps, want) || e != api.OK {
		t.Errorf("Take(%s) = %s, %d, want %s", shown(p), shown(ps...), e, shown(want...))
	}
	isIn(t, n, state)
}

// isIn holds State to a state.
func isIn(t *testing.T, n *Neg, state int) {
	t.Helper()
	if got := n.State(); got != state {
		t.Errorf("State() = %d, want %d", got, state)
	}
}

// has holds Own, Other and Left to what they give.
func has(t *testing.T, n *Neg, own, other api.Link, left int) {
	t.Helper()
	if n.Own() != own || n.Other() != other || n.Left() != left {
		t.Errorf("Own, Other, Left are %+v, %+v, %d, want %+v, %+v, %d", n.Own(), n.Other(), n.Left(), own, other, left)
	}
}

// doRefuses holds Do to an error alone (R2), which changes nothing (R5).
func doRefuses(t *testing.T, n *Neg, event int, want api.Errno) {
	t.Helper()
	was := *n
	if ps, e := n.Do(event); len(ps) != 0 || e != want {
		t.Errorf("Do(%d) = %s, %d, want the error %d alone", event, shown(ps...), e, want)
	}
	if *n != was {
		t.Errorf("Do(%d) changed %+v to %+v", event, was, *n)
	}
}

// takeRefuses holds Take to an error alone (R2), which changes nothing (R5).
func takeRefuses(t *testing.T, n *Neg, p api.Packet, want api.Errno) {
	t.Helper()
	was := *n
	if ps, e := n.Take(p); len(ps) != 0 || e != want {
		t.Errorf("Take(%s) = %s, %d, want the error %d alone", shown(p), shown(ps...), e, want)
	}
	if *n != was {
		t.Errorf("Take(%s) changed %+v to %+v", shown(p), was, *n)
	}
}

// lets holds Take to nothing at all: no packet, no error, no change.
func lets(t *testing.T, n *Neg, p api.Packet) {
	t.Helper()
	was := *n
	if ps, e := n.Take(p); len(ps) != 0 || e != api.OK || *n != was {
		t.Errorf("Take(%s) = %s, %d, which was to be let go; %+v became %+v", shown(p), shown(ps...), e, was, *n)
	}
}

// Packets by their codes.
func req(id int, os ...api.Opt) api.Packet {
	return api.Packet{Code: api.CodeConfReq, Id: id, Opts: os}
}
func ack(id int, os ...api.Opt) api.Packet {
	return api.Packet{Code: api.CodeConfAck, Id: id, Opts: os}
}
func nak(id int, os ...api.Opt) api.Packet {
	return api.Packet{Code: api.CodeConfNak, Id: id, Opts: os}
}
func rej(id int, os ...api.Opt) api.Packet {
	return api.Packet{Code: api.CodeConfRej, Id: id, Opts: os}
}
func termReq(id int) api.Packet { return api.Packet{Code: api.CodeTermReq, Id: id} }
func termAck(id int) api.Packet { return api.Packet{Code: api.CodeTermAck, Id: id} }
func other(code, id int, data string) api.Packet {
	return api.Packet{Code: code, Id: id, Data: data}
}

// P15.1: what a side is at first; each number of tries and each link that may
// be.
func TestNew(t *testing.T) {
	for tries := 1; tries <= api.MaxTries; tries++ {
		for _, l := range []api.Link{{}, some, whole, {Mru: 128, Mrru: 1500}, {Magic: 1<<32 - 1}, {Disc: strings.Repeat("\x00", 20), Num: 65535}} {
			n := side(t, l, tries)
			isIn(t, n, api.StateInitial)
			has(t, n, l, api.Link{}, 0)
			does(t, n, api.EventOpen, api.StateStarting)
			has(t, n, l, api.Link{}, 0)
			does(t, n, api.EventUp, api.StateReqSent, req(1, asked(t, l)...))
			has(t, n, l, api.Link{}, tries-1)
		}
	}
}

// P15.1: links that may not be, and numbers of tries that are none.
func TestNewForm(t *testing.T) {
	refuses := func(l api.Link, tries int) {
		t.Helper()
		if n, e := New(l, tries); n != nil || e != api.ErrNegForm {
			t.Errorf("New(%+v, %d) = %v, %d, want the error %d alone", l, tries, n, e, api.ErrNegForm)
		}
	}
	for _, tries := range append([]int{0, 11}, none...) {
		refuses(some, tries)
		refuses(api.Link{}, tries)
		refuses(api.Link{Mru: 1}, tries)
	}
	for _, l := range []api.Link{
		{Mru: 127}, {Mru: 1501}, {Mru: -1}, {Mrru: 127}, {Mrru: 1501}, {Mrru: 1<<32 | 128}, {Magic: -1}, {Magic: 1 << 32},
		{Num: -1}, {Num: 65536}, {Disc: strings.Repeat("z", 21)}, {Mru: 128, Magic: 9, Mrru: 128, Short: true, Disc: "a", Num: math.MinInt},
	} {
		for tries := -1; tries <= api.MaxTries+1; tries++ {
			refuses(l, tries)
		}
	}
}

// cell reads what a table has for a state: the codes of the packets that are
// sent, and the state that follows; never if it is a bar.
func cell(text string) (codes []int, next int, never bool) {
	if text == "-" {
		return nil, 0, true
	}
	names, state, found := strings.Cut(text, "/")
	if !found {
		state = names
	} else {
		for _, name := range strings.Split(names, ",") {
			codes = append(codes, strings.Index(" QANRtakpeyd", name))
		}
	}
	return codes, strings.Index("0123456789", state), false
}

// goes holds a call to a cell of a table: to the codes, the ids, which are the
// next ones of the side's own packets and answer those of answers, and the
// state behind it.
func goes(t *testing.T, name string, n *Neg, was Neg, answer int, ps []api.Packet, e api.Errno, text string) {
	t.Helper()
	codes, next, never := cell(text)
	if never {
		if len(ps) != 0 || e != api.ErrNegNever || *n != was {
			t.Errorf("%s in state %d: %s, %d, want the error %d alone", name, was.State(), shown(ps...), e, api.ErrNegNever)
		}
		return
	}
	var got []int
	id := was.id
	for _, p := range ps {
		got = append(got, p.Code)
		want := answer
		if p.Code == api.CodeConfReq || p.Code == api.CodeTermReq || p.Code == api.CodeCodeRej {
			id++
			want = id
		}
		if p.Id != want {
			t.Errorf("%s in state %d: %s, want the id %d", name, was.State(), shown(p), want)
		}
	}
	if !slices.Equal(got, codes) || n.State() != next || e != api.OK {
		t.Errorf("%s in state %d: %s, %d, state %d, want %s", name, was.State(), shown(ps...), e, n.State(), text)
	}
}

// P15.2: each event in each state.
func TestDoEachState(t *testing.T) {
	for event, row := range []string{
		api.EventUp:       "2  Q/6  -    -  -    -    -    -    -    -",
		api.EventDown:     "-  -    0    1  0    1    1    1    1    1",
		api.EventOpen:     "1  1    Q/6  3  5    5    6    7    8    9",
		api.EventClose:    "0  0    2    2  4    4    t/4  t/4  t/4  t/4",
		api.EventTimeMore: "-  -    -    -  t/4  t/5  Q/6  Q/6  Q/8  -",
	} {
		for state, text := range strings.Fields(row) {
			n := at(t, some, state)
			was := *n
			ps, e := n.Do(event)
			goes(t, fmt.Sprint("Do ", event), n, was, -1, ps, e, text)
		}
	}
}

// P15.2: in each state EventTimeMore is that the tries are over, if none is
// left.
func TestTimeOver(t *testing.T) {
	for state, text := range strings.Fields("-  -  -  -  2  3  3  3  3  -") {
		n := at(t, some, state)
		n.left = 0
		was := *n
		ps, e := n.Do(api.EventTimeMore)
		goes(t, "Do TimeMore", n, was, -1, ps, e, text)
		has(t, n, some, was.Other(), 0)
	}
}

// P15.2: what is no event of Do, of all the states; R6: that is told ahead of
// ErrNegNever.
func TestDoForm(t *testing.T) {
	for state := range 10 {
		n := at(t, some, state)
		for event := api.EventTimeOver; event <= api.EventEcho; event++ {
			doRefuses(t, n, event, api.ErrNegForm)
		}
		for _, event := range none {
			doRefuses(t, n, event, api.ErrNegForm)
		}
	}
}

// P15.2: what never comes, and changes nothing.
func TestDoNever(t *testing.T) {
	for state := range 10 {
		for _, event := range []int{api.EventUp, api.EventDown, api.EventTimeMore} {
			if fsm.Comes(state, event) {
				continue
			}
			n := at(t, whole, state)
			doRefuses(t, n, event, api.ErrNegNever)
			isIn(t, n, state)
		}
	}
}

// P15.2: as many requests as tries, each of the next id, then no more.
func TestTriesOfRequests(t *testing.T) {
	for tries := 1; tries <= api.MaxTries; tries++ {
		n := side(t, some, tries)
		does(t, n, api.EventOpen, api.StateStarting)
		does(t, n, api.EventUp, api.StateReqSent, req(1, someAsks...))
		for i := 2; i <= tries; i++ {
			has(t, n, some, api.Link{}, tries-i+1)
			does(t, n, api.EventTimeMore, api.StateReqSent, req(i, someAsks...))
		}
		has(t, n, some, api.Link{}, 0)
		does(t, n, api.EventTimeMore, api.StateStopped)
		has(t, n, some, api.Link{}, 0)
		doRefuses(t, n, api.EventTimeMore, api.ErrNegNever)
		does(t, n, api.EventDown, api.StateStarting)
		does(t, n, api.EventUp, api.StateReqSent, req(tries+1, someAsks...))
		has(t, n, some, api.Link{}, tries-1)
	}
}

// P15.2: as many requests to end as tries, each of the next id, then no more.
func TestTriesOfTerms(t *testing.T) {
	for tries := 1; tries <= api.MaxTries; tries++ {
		n := side(t, some, tries)
		does(t, n, api.EventUp, api.StateClosed)
		does(t, n, api.EventOpen, api.StateReqSent, req(1, someAsks...))
		does(t, n, api.EventClose, api.StateClosing, termReq(2))
		for i := 2; i <= tries; i++ {
			has(t, n, some, api.Link{}, tries-i+1)
			does(t, n, api.EventTimeMore, api.StateClosing, termReq(i+1))
		}
		has(t, n, some, api.Link{}, 0)
		does(t, n, api.EventTimeMore, api.StateClosed)
		doRefuses(t, n, api.EventTimeMore, api.ErrNegNever)
		does(t, n, api.EventOpen, api.StateReqSent, req(tries+2, someAsks...))
	}
}

// P15.2: an ack gives all tries back; ways that ask anew without that spend
// one, and none is ever less than 0.
func TestLeft(t *testing.T) {
	n := side(t, some, 2)
	does(t, n, api.EventOpen, api.StateStarting)
	does(t, n, api.EventUp, api.StateReqSent, req(1, someAsks...))
	does(t, n, api.EventTimeMore, api.StateReqSent, req(2, someAsks...))
	has(t, n, some, api.Link{}, 0)
	takes(t, n, ack(2, someAsks...), api.StateAckRcvd)
	has(t, n, some, api.Link{}, 2)
	for i, left := range []int{1, 0, 0, 0} {
		takes(t, n, req(9), api.StateOpened, ack(9))
		takes(t, n, termAck(1), api.StateReqSent, req(3+i, someAsks...))
		has(t, n, some, api.Link{}, left)
		n.state = api.StateAckRcvd
	}
	n.state = api.StateReqSent
	takes(t, n, ack(6, someAsks...), api.StateAckRcvd)
	takes(t, n, req(9), api.StateOpened, ack(9))
	has(t, n, some, api.Link{}, 2)
	takes(t, n, termReq(4), api.StateStopping, termAck(4))
	has(t, n, some, api.Link{}, 0)
	does(t, n, api.EventTimeMore, api.StateStopped)
}

// P15.2: the ids of requests, of requests to end and of rejects are one row,
// modulo 256.
func TestIds(t *testing.T) {
	n := side(t, api.Link{}, api.MaxTries)
	does(t, n, api.EventUp, api.StateClosed)
	for i := 0; i < 3*ids; i += 3 {
		does(t, n, api.EventOpen, api.StateReqSent, req((i+1)%256))
		takes(t, n, other(99, 7, ""), api.StateReqSent, other(api.CodeCodeRej, (i+2)%256, "\x63\x07\x00\x04"))
		does(t, n, api.EventClose, api.StateClosing, termReq((i+3)%256))
		takes(t, n, termAck(3), api.StateClosed)
	}
}

// P15.2: of the id 0, which comes behind 255, answers are taken too.
func TestIdZero(t *testing.T) {
	n := side(t, some, 1)
	n.id = 254
	does(t, n, api.EventOpen, api.StateStarting)
	does(t, n, api.EventUp, api.StateReqSent, req(255, someAsks...))
	lets(t, n, ack(0, someAsks...))
	takes(t, n, nak(255), api.StateReqSent, req(0, someAsks...))
	lets(t, n, ack(255, someAsks...))
	lets(t, n, ack(1, someAsks...))
	takes(t, n, ack(0, someAsks...), api.StateAckRcvd)
}

// P15.3: each kind of packet in each state.
func TestTakeEachState(t *testing.T) {
	const asks = "last" // the options of the last request
	for _, c := range []struct {
		name string
		p    api.Packet
		row  string
	}{
		{"good request", req(40, good), "-  -  a/2  Q,A/8  4    5    A/8  A/9  A/8  Q,A/8"},
		{"no options", req(40), "        -  -  a/2  Q,A/8  4    5    A/8  A/9  A/8  Q,A/8"},
		{"request to nak", req(40, low), "-  -  a/2  Q,N/6  4    5    N/6  N/7  N/6  Q,N/6"},
		{"request to reject", req(40, odd), "-  -  a/2  Q,R/6  4    5    R/6  R/7  R/6  Q,R/6"},
		{"ack", other(api.CodeConfAck, 0, asks), "-  -  2  a/3  4  5  7  Q/6  9  Q/6"},
		{"nak", other(api.CodeConfNak, 0, asks), "-  -  2  a/3  4  5  Q/6  Q/6  Q/8  Q/6"},
		{"reject", other(api.CodeConfRej, 0, asks), "-  -  2  a/3  4  5  Q/6  Q/6  Q/8  Q/6"},
		{"request to end", termReq(40), "-  -  a/2  a/3  a/4  a/5  a/6  a/6  a/6  a/5"},
		{"request to end, why", other(api.CodeTermReq, 40, "why"), "-  -  a/2  a/3  a/4  a/5  a/6  a/6  a/6  a/5"},
		{"ack of an end", termAck(40), "-  -  2  3  2  3  6  6  8  Q/6"},
		{"code reject", other(api.CodeCodeRej, 40, "x"), "-  -  2  3  4  5  6  6  8  9"},
		{"protocol reject", other(api.CodeProtoRej, 40, "x"), "-  -  2  3  4  5  6  6  8  9"},
		{"echo request", other(api.CodeEchoReq, 40, "x"), "-  -  2  3  4  5  6  7  8  y/9"},
		{"echo reply", other(api.CodeEchoRep, 40, "x"), "-  -  2  3  4  5  6  7  8  9"},
		{"discard", other(api.CodeDiscard, 40, "x"), "-  -  2  3  4  5  6  7  8  9"},
		{"code 0", other(0, 40, "x"), "-  -  k/2  k/3  k/4  k/5  k/6  k/7  k/8  k/9"},
		{"code 12", other(12, 40, "x"), "-  -  k/2  k/3  k/4  k/5  k/6  k/7  k/8  k/9"},
		{"code 255", other(255, 40, "x"), "-  -  k/2  k/3  k/4  k/5  k/6  k/7  k/8  k/9"},
	} {
		for state, text := range strings.Fields(c.row) {
			n := at(t, some, state)
			was, p, answer := *n, c.p, 40
			if p.Data == asks && p.Code <= api.CodeConfRej {
				p.Data, p.Id, p.Opts = "", n.last.id, someAsks
			}
			ps, e := n.Take(p)
			if p.Code <= api.CodeConfRej && strings.HasPrefix(text, "a/") {
				answer = 0
			}
			goes(t, c.name, n, was, answer, ps, e, text)
		}
	}
}

// P15.3: a link that both sides open, by hand.
func TestOrdinary(t *testing.T) {
	n := side(t, whole, 4)
	does(t, n, api.EventOpen, api.StateStarting)
	does(t, n, api.EventUp, api.StateReqSent, req(1, wholeAsks...))
	takes(t, n, req(77, good), api.StateAckSent, ack(77, good))
	has(t, n, whole, api.Link{Mru: 256}, 3)
	takes(t, n, rej(1, wholeAsks[3], wholeAsks[5]), api.StateAckSent, req(2, wholeAsks[0], wholeAsks[1], wholeAsks[2], wholeAsks[4]))
	own := whole
	own.Short, own.Num = false, 0
	has(t, n, own, api.Link{Mru: 256}, 3)
	takes(t, n, ack(2, wholeAsks[0], wholeAsks[1], wholeAsks[2], wholeAsks[4]), api.StateOpened)
	has(t, n, own, api.Link{Mru: 256}, 4)
	takes(t, n, other(api.CodeEchoReq, 9, "are you there?"), api.StateOpened, other(api.CodeEchoRep, 9, "are you there?"))
	takes(t, n, other(api.CodeDiscard, 9, "no matter"), api.StateOpened)
	does(t, n, api.EventClose, api.StateClosing, termReq(3))
	takes(t, n, termAck(3), api.StateClosed)
	has(t, n, own, api.Link{Mru: 256}, 3)
	does(t, n, api.EventDown, api.StateInitial)
	has(t, n, own, api.Link{Mru: 256}, 3)
}

// P15.3: what layer 5 refuses, in each state; R6: that is told ahead of
// ErrNegNever.
func TestTakeForm(t *testing.T) {
	big := api.Opt{Kind: 1, Data: strings.Repeat("z", api.MaxData)}
	for state := range 10 {
		n := at(t, some, state)
		for _, p := range []api.Packet{
			{Code: -1}, {Code: 256}, {Code: 1<<32 | api.CodeConfReq}, {Code: math.MinInt}, {Code: api.CodeConfReq, Id: -1},
			{Code: api.CodeTermReq, Id: 256}, {Code: api.CodeConfAck, Id: 1 << 32, Opts: someAsks},
			req(1, api.Opt{Kind: 256}), req(1, api.Opt{Kind: -1}), ack(n.last.id, api.Opt{Kind: 1<<32 | api.OptMru, Data: "\x03\xe8"}),
			req(1, api.Opt{Kind: 1, Data: big.Data + "z"}), nak(n.last.id, big, big, big, big, big, big, big, big, big),
			{Code: api.CodeConfReq, Data: "z"}, {Code: api.CodeConfAck, Id: n.last.id, Opts: someAsks, Data: "z"},
			{Code: api.CodeConfRej, Id: n.last.id, Data: "z"}, {Code: api.CodeTermReq, Opts: someAsks}, {Opts: someAsks}, {Code: 12, Opts: []api.Opt{{}}},
			other(api.CodeEchoReq, 1, strings.Repeat("z", api.MaxFrame-3)), other(99, 1, strings.Repeat("z", api.MaxText)),
		} {
			takeRefuses(t, n, p, api.ErrNegForm)
		}
	}
}

// P15.3: where there is no line no packet comes, those neither that would be
// let go.
func TestTakeNever(t *testing.T) {
	for _, down := range [][]int{{}, {api.EventOpen}, {api.EventUp, api.EventDown}, {api.EventOpen, api.EventUp, api.EventDown}} {
		n := side(t, some, 3)
		for _, event := range down {
			n.Do(event)
		}
		for code := range 256 {
			for _, id := range []int{0, 1, 255} {
				takeRefuses(t, n, other(code, id, ""), api.ErrNegNever)
			}
		}
		takeRefuses(t, n, ack(n.last.id, someAsks...), api.ErrNegNever)
		takeRefuses(t, n, nak(n.last.id, good), api.ErrNegNever)
	}
}

// P15.3: an ack is one of the last request's id, with its options as they
// were sent; all others are let go, in all states.
func TestAckOfAnother(t *testing.T) {
	back := []api.Opt{someAsks[1], someAsks[0]}
	for state := api.StateStopped; state <= api.StateOpened; state++ {
		n := at(t, some, state)
		for id := range 256 {
			if id != n.last.id {
				lets(t, n, ack(id, someAsks...))
				lets(t, n, nak(id, good))
				lets(t, n, rej(id, someAsks...))
			}
		}
		for _, os := range [][]api.Opt{
			nil, {}, someAsks[:1], someAsks[1:], back, {good, someAsks[1]}, {someAsks[0], someAsks[1], odd}, {someAsks[0], someAsks[1], someAsks[1]},
			{{Kind: api.OptMrru, Data: "\x03\xe8"}, someAsks[1]}, {{Kind: api.OptMru, Data: "\x03\xe8\x00"}, someAsks[1]},
		} {
			lets(t, n, ack(n.last.id, os...))
		}
	}
}

// P15.3: of a side that has sent no request no id is its, 0 neither.
func TestNoRequestYet(t *testing.T) {
	for _, l := range []api.Link{{}, some} {
		n := side(t, l, 3)
		does(t, n, api.EventUp, api.StateClosed)
		for id := range 256 {
			lets(t, n, ack(id))
			lets(t, n, ack(id, asked(t, l)...))
			lets(t, n, nak(id, good))
			lets(t, n, rej(id, someAsks...))
		}
		takes(t, n, other(99, 1, ""), api.StateClosed, other(api.CodeCodeRej, 1, "\x63\x01\x00\x04"))
		lets(t, n, ack(1, asked(t, l)...))
	}
}

// P15.3: the last request counts, though packets of other codes have had
// later ids since, and the line was gone.
func TestLastRequestStays(t *testing.T) {
	n := at(t, some, api.StateReqSent)
	takes(t, n, other(99, 1, ""), api.StateReqSent, other(api.CodeCodeRej, 2, "\x63\x01\x00\x04"))
	lets(t, n, ack(2, someAsks...))
	takes(t, n, ack(1, someAsks...), api.StateAckRcvd)
	does(t, n, api.EventClose, api.StateClosing, termReq(3))
	lets(t, n, ack(3, someAsks...))
	takes(t, n, ack(1, someAsks...), api.StateClosing)
	does(t, n, api.EventDown, api.StateInitial)
	does(t, n, api.EventUp, api.StateClosed)
	lets(t, n, ack(0, someAsks...))
	takes(t, n, ack(1, someAsks...), api.StateClosed, termAck(0))
}

// P15.3: what was asked is what was sent, whatever the side has learnt since.
func TestAckBehindLearning(t *testing.T) {
	n := at(t, some, api.StateClosing)
	takes(t, n, nak(1, good), api.StateClosing)
	own := some
	own.Mru = 256
	has(t, n, own, api.Link{}, 2)
	lets(t, n, ack(1, good, someAsks[1]))
	takes(t, n, termAck(2), api.StateClosed)
	takes(t, n, rej(1, someAsks[1]), api.StateClosed, termAck(0))
	own.Magic = 0
	has(t, n, own, api.Link{}, 2)
	lets(t, n, ack(1, good))
	takes(t, n, ack(1, someAsks...), api.StateClosed, termAck(0))
	does(t, n, api.EventOpen, api.StateReqSent, req(3, good))
	takes(t, n, ack(3, good), api.StateAckRcvd)
}

// P15.3: naks and rejects are learnt ahead of asking anew.
func TestLearns(t *testing.T) {
	n := at(t, whole, api.StateReqSent)
	own := whole
	own.Mru, own.Num, own.Disc = 256, 1, "you"
	takes(t, n, nak(1, good, low, api.Opt{Kind: api.OptLink, Data: "\x00\x01"}, odd, api.Opt{Kind: api.OptDisc, Data: "you"}), api.StateReqSent, req(2, asked(t, own)...))
	has(t, n, own, api.Link{}, 2)
	lets(t, n, nak(1, most))
	takes(t, n, rej(2, wholeAsks...), api.StateReqSent, req(3))
	has(t, n, api.Link{}, api.Link{}, 2)
	takes(t, n, nak(3, wholeAsks...), api.StateReqSent, req(4))
	takes(t, n, rej(4), api.StateReqSent, req(5))
	lets(t, n, ack(5, good))
	takes(t, n, ack(5), api.StateAckRcvd)
}

// P15.3: a request is judged by what the side itself asks for by then.
func TestJudges(t *testing.T) {
	short, like := api.Opt{Kind: api.OptShort}, wholeAsks[1]
	n := at(t, whole, api.StateReqSent)
	takes(t, n, req(5, low, good, odd), api.StateReqSent, rej(5, good, odd))
	takes(t, n, req(6, low, like), api.StateReqSent, nak(6, most, api.Opt{Kind: api.OptMagic, Data: "\xfe\xfd\xfc\xfb"}))
	has(t, n, whole, api.Link{}, 2)
	takes(t, n, req(7, short, someAsks[1]), api.StateAckSent, ack(7, short, someAsks[1]))
	has(t, n, whole, api.Link{Magic: 7, Short: true}, 2)
	takes(t, n, rej(1, short, like), api.StateAckSent, req(2, wholeAsks[0], wholeAsks[2], wholeAsks[4], wholeAsks[5]))
	takes(t, n, req(7, short, like), api.StateReqSent, rej(7, short))
	takes(t, n, req(8, like), api.StateAckSent, ack(8, like))
	own := whole
	own.Short, own.Magic = false, 0
	has(t, n, own, api.Link{Magic: 0x01020304}, 2)
}

// P15.3: Other is what was acked last: naks and rejects do not change it, nor
// does a request that is not answered, and it stays when the line goes.
func TestOther(t *testing.T) {
	n := at(t, some, api.StateClosed)
	takes(t, n, req(1, good), api.StateClosed, termAck(0))
	has(t, n, some, api.Link{}, 0)
	n = at(t, some, api.StateOpened)
	has(t, n, some, api.Link{Mru: 256}, 3)
	takes(t, n, req(2, odd), api.StateReqSent, req(2, someAsks...), rej(2, odd))
	takes(t, n, req(3, low), api.StateReqSent, nak(3, most))
	has(t, n, some, api.Link{Mru: 256}, 2)
	takes(t, n, req(4, wholeAsks[5], wholeAsks[4], most), api.StateAckSent, ack(4, wholeAsks[5], wholeAsks[4], most))
	has(t, n, some, api.Link{Mru: 1500, Disc: "withy", Num: 258}, 2)
	takes(t, n, req(5), api.StateAckSent, ack(5))
	has(t, n, some, api.Link{}, 2)
	takes(t, n, req(6, api.Opt{Kind: api.OptLink, Data: "\x00\x00"}), api.StateAckSent, ack(6, api.Opt{Kind: api.OptLink, Data: "\x00\x00"}))
	has(t, n, some, api.Link{}, 2)
	takes(t, n, req(7, good), api.StateAckSent, ack(7, good))
	does(t, n, api.EventClose, api.StateClosing, termReq(3))
	takes(t, n, req(8), api.StateClosing)
	does(t, n, api.EventDown, api.StateInitial)
	has(t, n, some, api.Link{Mru: 256}, 2)
}

// P15.3: ends are acked by their id, without data; whatever else is answered
// by an ack of an end is by the id 0.
func TestTermAcks(t *testing.T) {
	for state := api.StateClosed; state <= api.StateOpened; state++ {
		for _, id := range []int{0, 1, 40, 255} {
			n := at(t, some, state)
			ps, e := n.Take(other(api.CodeTermReq, id, "bye"))
			if !same(ps, []api.Packet{termAck(id)}) || e != api.OK {
				t.Errorf("state %d, id %d: %s, %d", state, id, shown(ps...), e)
			}
		}
	}
	n := at(t, some, api.StateStopped)
	takes(t, n, ack(n.last.id, someAsks...), api.StateStopped, termAck(0))
	takes(t, n, nak(n.last.id, good), api.StateStopped, termAck(0))
	takes(t, n, rej(n.last.id, good), api.StateStopped, termAck(0))
	n = at(t, some, api.StateClosed)
	takes(t, n, req(9, odd), api.StateClosed, termAck(0))
	takes(t, n, req(9, low), api.StateClosed, termAck(0))
}

// P15.3: codes that are none are rejected with the first 64 bytes of their
// packet.
func TestCodeRej(t *testing.T) {
	n := at(t, some, api.StateOpened)
	id := n.id
	for code := range 256 {
		if code >= api.CodeConfReq && code <= api.CodeDiscard {
			continue
		}
		for _, size := range []int{0, 1, 59, 60, 61, 300, api.MaxFrame - 4} {
			p := other(code, 255-code, strings.Repeat("\xffz", size)[:size])
			head := []byte{byte(code), byte(255 - code), byte((size + 4) / 256), byte((size + 4) % 256)}
			id = (id + 1) % 256
			takes(t, n, p, api.StateOpened, other(api.CodeCodeRej, id, string(head)+p.Data[:min(size, 60)]))
		}
	}
}

// P15.3: an opened side sends echoes back as they are, the longest too; others
// do not, nor is any other code's data sent back.
func TestEcho(t *testing.T) {
	for _, data := range []string{"", "\x00", "~}\xff", strings.Repeat("z", api.MaxFrame-4)} {
		for _, id := range []int{0, 1, 255} {
			n := at(t, some, api.StateOpened)
			takes(t, n, other(api.CodeEchoReq, id, data), api.StateOpened, other(api.CodeEchoRep, id, data))
			lets(t, n, other(api.CodeEchoRep, id, data))
			lets(t, n, other(api.CodeDiscard, id, data))
			for state := api.StateClosed; state < api.StateOpened; state++ {
				lets(t, at(t, some, state), other(api.CodeEchoReq, id, data))
			}
		}
	}
}

// chance gives a link that may be, by chance.
func chance(r *rand.Rand, magic int) api.Link {
	l := api.Link{Magic: magic, Short: r.IntN(2) == 0, Num: r.IntN(2) * r.IntN(65536)}
	if r.IntN(2) == 0 {
		l.Mru = 128 + r.IntN(1373)
	}
	if r.IntN(2) == 0 {
		l.Mrru = 128 + r.IntN(1373)
	}
	for range r.IntN(2) * r.IntN(21) {
		l.Disc += string([]byte{byte(r.IntN(256))})
	}
	return l
}

// line is two sides with what is on its way to each of them, and how many
// packets have come.
type line struct {
	sides [2]Neg
	ways  [2][]api.Packet
	come  int
}

// longest is how many packets may come before a line settles.
const longest = 40

// up gives a line of two sides that ask for a and b, and have opened.
func up(t *testing.T, a, b api.Link, tries int) line {
	t.Helper()
	var l line
	for i, own := range []api.Link{a, b} {
		n := side(t, own, tries)
		n.Do(api.EventOpen)
		ps, e := n.Do(api.EventUp)
		if e != api.OK {
			t.Fatalf("Do(EventUp) = %d", e)
		}
		l.sides[i], l.ways[1-i] = *n, ps
	}
	return l
}

// after gives the line behind the first packet's coming to a side.
func (l line) after(t *testing.T, to int) line {
	t.Helper()
	if l.come++; l.come > longest {
		t.Fatalf("the line does not settle: %+v", l.sides)
	}
	ps, e := l.sides[to].Take(l.ways[to][0])
	if e != api.OK {
		t.Fatalf("Take(%s) = %d", shown(l.ways[to][0]), e)
	}
	l.ways[to] = l.ways[to][1:]
	l.ways[1-to] = slices.Concat(l.ways[1-to], ps)
	return l
}

// settled holds a line on which nothing is on its way to what two sides come
// to that have asked for a and b.
func (l line) settled(t *testing.T, a, b api.Link) {
	t.Helper()
	if !a.Short || !b.Short {
		a.Short, b.Short = false, false
	}
	for i, want := range [][2]api.Link{{a, b}, {b, a}} {
		n := &l.sides[i]
		if n.State() != api.StateOpened || n.Own() != want[0] || n.Other() != want[1] {
			t.Fatalf("side %d: state %d, %+v, %+v, want %d, %+v, %+v", i, n.State(), n.Own(), n.Other(), api.StateOpened, want[0], want[1])
		}
	}
}

// P15.4: two sides open, and agree on what each asks for, in each order in
// which their packets can come.
func TestOpenInEachOrder(t *testing.T) {
	plain, noShort := whole, whole
	plain.Magic, noShort.Magic, noShort.Short = 0, 9, false
	for _, c := range [][2]api.Link{
		{{}, {}}, {some, {}}, {{}, some}, {some, whole}, {whole, some}, {whole, plain}, {plain, whole}, {plain, plain},
		{whole, noShort}, {noShort, whole}, {plain, noShort}, {noShort, some}, {{Magic: 1}, {Magic: 1<<32 - 1}}, {{Short: true}, {Magic: 1}},
	} {
		for tries := 1; tries <= 3; tries++ {
			seen, ends := map[string]int{}, 0
			var walk func(l line)
			walk = func(l line) {
				key := fmt.Sprint(l)
				if seen[key]++; seen[key] > 1 {
					return
				}
				if len(l.ways[0])+len(l.ways[1]) == 0 {
					ends++
					l.settled(t, c[0], c[1])
				}
				for to := range l.ways {
					if len(l.ways[to]) > 0 {
						walk(l.after(t, to))
					}
				}
			}
			walk(up(t, c[0], c[1], tries))
			if ends == 0 {
				t.Errorf("%+v and %+v never settle", c[0], c[1])
			}
		}
	}
}

// P15.4: sides by chance, with packets in an order by chance.
func TestOpenByChance(t *testing.T) {
	r := rand.New(rand.NewPCG(15, 4))
	for range 3000 {
		magic := r.IntN(1 << 32)
		a := chance(r, magic*r.IntN(2))
		b := chance(r, (magic^(1<<r.IntN(32)))*r.IntN(2))
		if a.Magic == b.Magic && a.Magic != 0 {
			continue
		}
		l := up(t, a, b, 1+r.IntN(api.MaxTries))
		for len(l.ways[0])+len(l.ways[1]) > 0 {
			to := r.IntN(2)
			if len(l.ways[to]) == 0 {
				to = 1 - to
			}
			l = l.after(t, to)
		}
		l.settled(t, a, b)
	}
}

// P15.4: the packets as they stand on a wire.
func TestOpenOverBytes(t *testing.T) {
	l := up(t, whole, some, 3)
	for to := 0; len(l.ways[0])+len(l.ways[1]) > 0; to = 1 - to {
		if len(l.ways[to]) == 0 {
			continue
		}
		x, e := control.Put(l.ways[to][0])
		p, f := control.Get(x)
		if e != api.OK || f != api.OK {
			t.Fatalf("%s: %d, %d", shown(l.ways[to][0]), e, f)
		}
		l.ways[to][0] = p
		l = l.after(t, to)
	}
	l.settled(t, whole, some)
}

// P15.4: a side that has opened first, and whose requests were lost, opens
// when the other has and its time comes; then both end.
func TestOpenLateAndEnd(t *testing.T) {
	a, b := at(t, some, api.StateReqSent), side(t, whole, 3)
	does(t, b, api.EventOpen, api.StateStarting)
	ps, _ := b.Do(api.EventUp)
	again, _ := a.Do(api.EventTimeMore)
	l := line{sides: [2]Neg{*a, *b}, ways: [2][]api.Packet{ps, again}}
	over := func() {
		for to := 0; len(l.ways[0])+len(l.ways[1]) > 0; to = 1 - to {
			for len(l.ways[to]) > 0 {
				l = l.after(t, to)
			}
		}
	}
	over()
	l.settled(t, some, whole)
	l.ways[1], _ = l.sides[0].Do(api.EventClose)
	over()
	isIn(t, &l.sides[0], api.StateClosed)
	isIn(t, &l.sides[1], api.StateStopping)
	does(t, &l.sides[1], api.EventTimeMore, api.StateStopped)
}

// R3: a nil pointer.
func TestNil(t *testing.T) {
	var n *Neg
	for _, event := range append([]int{0, 1, 2, 3, 4, 5, 15}, none...) {
		if ps, e := n.Do(event); len(ps) != 0 || e != api.ErrNil {
			t.Errorf("Do(%d) = %s, %d", event, shown(ps...), e)
		}
	}
	for _, p := range []api.Packet{{}, req(1, good), ack(0), termReq(1), {Code: -1}, other(api.CodeEchoReq, 1, "x")} {
		if ps, e := n.Take(p); len(ps) != 0 || e != api.ErrNil {
			t.Errorf("Take(%s) = %s, %d", shown(p), shown(ps...), e)
		}
	}
	isIn(t, n, 0)
	has(t, n, api.Link{}, api.Link{}, 0)
}

// R1: a side that New did not make.
func TestZero(t *testing.T) {
	r := rand.New(rand.NewPCG(15, 1))
	for range 50 {
		n := &Neg{}
		has(t, n, api.Link{}, api.Link{}, 0)
		for range 100 {
			n.Do(r.IntN(5))
			n.Take(other(r.IntN(13), r.IntN(4), ""))
		}
	}
}

// texts gives all texts that v has in it.
func texts(v reflect.Value) []string {
	var all []string
	switch v.Kind() {
	case reflect.String:
		return []string{v.String()}
	case reflect.Struct:
		for i := range v.NumField() {
			all = append(all, texts(v.Field(i))...)
		}
	case reflect.Slice, reflect.Array:
		for i := range v.Len() {
			all = append(all, texts(v.Index(i))...)
		}
	}
	return all
}

// apart fails if two things have a text in the same memory.
func apart(t *testing.T, a, b any) {
	t.Helper()
	for _, x := range texts(reflect.ValueOf(a)) {
		for _, y := range texts(reflect.ValueOf(b)) {
			if x != "" && unsafe.StringData(x) == unsafe.StringData(y) {
				t.Errorf("%q is shared", x)
			}
		}
	}
}

// fresh gives a text in memory of its own.
func fresh(x string) string {
	return string([]byte(x))
}

// R4: what is answered shares no memory with what was handed in, with another
// answer, nor with what the side holds.
func TestApart(t *testing.T) {
	l := whole
	l.Disc = fresh("withy")
	n := side(t, l, 3)
	apart(t, l, *n)
	apart(t, n.Own(), *n)
	apart(t, n.Own(), n.Own())
	n.Do(api.EventOpen)
	first, _ := n.Do(api.EventUp)
	apart(t, first, *n)
	again, _ := n.Do(api.EventTimeMore)
	apart(t, first, again)
	disc := nak(2, api.Opt{Kind: api.OptDisc, Data: fresh("willow")})
	third, _ := n.Take(disc)
	apart(t, disc, *n)
	apart(t, disc, third)
	apart(t, third, *n)
	theirs := req(5, api.Opt{Kind: api.OptDisc, Data: fresh("reed")}, api.Opt{Kind: api.OptMru, Data: fresh("\x01\x00")})
	for range 2 {
		answer, _ := n.Take(theirs)
		if len(answer) != 1 || unsafe.SliceData(answer[0].Opts) == unsafe.SliceData(theirs.Opts) {
			t.Fatalf("Take(%s) = %s", shown(theirs), shown(answer...))
		}
		apart(t, theirs, answer)
		apart(t, theirs, *n)
		apart(t, answer, *n)
		apart(t, n.Other(), *n)
		apart(t, n.Other(), n.Other())
	}
	for _, os := range [][]api.Opt{{{Kind: 77, Data: fresh("x")}}, {{Kind: api.OptMagic, Data: fresh("\x01\x02\x03\x04")}, {Kind: api.OptMru, Data: fresh("\x00\x00")}}} {
		answer, _ := n.Take(req(6, os...))
		apart(t, os, answer)
	}
	n = at(t, whole, api.StateOpened)
	for _, code := range []int{api.CodeEchoReq, 99} {
		p := other(code, 3, fresh("data"))
		answer, _ := n.Take(p)
		apart(t, p, answer)
	}
	if l != whole || theirs.Opts[0].Data != "reed" {
		t.Error("what was handed in has changed")
	}
}

// R4: what is handed in is not changed, its spare room neither; what is done
// with an answer changes nothing that the side tells.
func TestAnswersAreNew(t *testing.T) {
	marks := []api.Opt{{Kind: -7, Data: "mark"}, {Kind: -8, Data: "mark"}}
	for _, os := range [][]api.Opt{{good}, {low, low}, {odd}, someAsks, {low}, nil} {
		for code := api.CodeConfReq; code <= api.CodeConfRej; code++ {
			for state := api.StateClosed; state <= api.StateOpened; state++ {
				n := at(t, some, state)
				room := slices.Concat(os, marks)
				ps, _ := n.Take(api.Packet{Code: code, Id: n.last.id, Opts: room[:len(os)]})
				if !slices.Equal(room, slices.Concat(os, marks)) {
					t.Fatalf("Take changed %v to %v", os, room)
				}
				was, own, theirs := *n, n.Own(), n.Other()
				for i := range ps {
					for j := range ps[i].Opts {
						ps[i].Opts[j] = marks[0]
					}
					_ = append(ps[i].Opts, marks...)
				}
				clear(ps[:cap(ps)])
				if *n != was || n.Own() != own || n.Other() != theirs {
					t.Fatalf("an answer's change changed %+v to %+v", was, *n)
				}
			}
		}
	}
	n := side(t, some, 3)
	n.Do(api.EventOpen)
	ps, _ := n.Do(api.EventUp)
	clear(ps[0].Opts)
	takes(t, n, ack(1, someAsks...), api.StateAckRcvd)
}

// model is what the chapter says, in the plainest way.
type model struct {
	state, left, tries, id int
	own, other             api.Link
	lastId                 int
	lastOpts               []api.Opt
}

// take is Take.
func (m *model) take(p api.Packet) ([]api.Packet, api.Errno) {
	if _, e := control.Put(p); e != api.OK {
		return nil, api.ErrNegForm
	}
	if m.state < 2 {
		return nil, api.ErrNegNever
	}
	event := api.EventUnknown
	switch p.Code {
	case 1:
		event = api.EventReqBad
		if v, _, _ := policy.Judge(m.own, p.Opts...); v == api.VerdictAck {
			event = api.EventReqGood
		}
	case 2, 3, 4:
		if p.Id != m.lastId || p.Code == 2 && !slices.Equal(p.Opts, m.lastOpts) {
			return nil, api.OK
		}
		event = api.EventAck
		if p.Code != 2 {
			m.own, _ = policy.Learn(m.own, p.Code, p.Opts...)
			event = api.EventNakRej
		}
	case 5:
		event = api.EventTermReq
	case 6:
		event = api.EventTermAck
	case 7, 8:
		event = api.EventRejGood
	case 9, 10, 11:
		event = api.EventEcho
	}
	return m.come(event, p)
}

// do is Do.
func (m *model) do(event int) ([]api.Packet, api.Errno) {
	if event < 0 || event > 4 {
		return nil, api.ErrNegForm
	}
	if event == 4 && m.left == 0 {
		event = 5
	}
	return m.come(event, api.Packet{})
}

// come does the actions one by one.
func (m *model) come(event int, p api.Packet) ([]api.Packet, api.Errno) {
	next, actions, e := fsm.Step(m.state, event)
	if e != api.OK {
		return nil, api.ErrNegNever
	}
	m.state = next
	var out []api.Packet
	for _, a := range actions {
		switch a {
		case 5:
			m.left = m.tries
		case 6:
			m.left = 0
		case 7:
			m.id, m.left = (m.id+1)%256, max(0, m.left-1)
			m.lastId = m.id
			m.lastOpts, _ = policy.Ask(m.own)
			out = append(out, req(m.id, m.lastOpts...))
		case 8:
			m.other, _ = policy.Taken(p.Opts...)
			out = append(out, ack(p.Id, p.Opts...))
		case 9:
			v, os, _ := policy.Judge(m.own, p.Opts...)
			out = append(out, api.Packet{Code: 2 + v, Id: p.Id, Opts: os})
		case 10:
			m.id, m.left = (m.id+1)%256, max(0, m.left-1)
			out = append(out, termReq(m.id))
		case 11:
			id := 0
			if event == api.EventTermReq {
				id = p.Id
			}
			out = append(out, termAck(id))
		case 12:
			x, _ := control.Put(p)
			m.id = (m.id + 1) % 256
			out = append(out, other(7, m.id, x[:min(64, len(x))]))
		case 13:
			if p.Code == api.CodeEchoReq {
				out = append(out, other(10, p.Id, p.Data))
			}
		}
	}
	return out, api.OK
}

// options gives options by chance: some to take, some to nak, some to reject,
// and sometimes what was asked last.
func (m *model) options(r *rand.Rand) []api.Opt {
	if r.IntN(2) == 0 {
		return m.lastOpts
	}
	all := slices.Concat(wholeAsks, someAsks, []api.Opt{good, low, most, odd, {Kind: api.OptMagic, Data: "\x00\x00\x00\x00"}, {Kind: api.OptDisc}})
	var os []api.Opt
	for range r.IntN(4) {
		os = append(os, all[r.IntN(len(all))])
	}
	return os
}

// packet gives a packet by chance, of the ids and options that may matter.
func (m *model) packet(r *rand.Rand) api.Packet {
	p := api.Packet{Code: 1 + r.IntN(13), Id: []int{max(m.lastId, 0), m.id, r.IntN(256)}[r.IntN(3)]}
	if r.IntN(3) == 0 {
		p.Code, p.Id = 1+r.IntN(2), max(m.lastId, 0)
	}
	if p.Code <= api.CodeConfRej {
		p.Opts = m.options(r)
	} else {
		p.Data = strings.Repeat("z", r.IntN(100))
	}
	switch r.IntN(40) {
	case 0:
		p.Id = -1 - r.IntN(3)
	case 1:
		p.Data = strings.Repeat("z", api.MaxFrame)
	}
	return p
}

// walk holds a side to the model over a row of calls by chance; it gives the
// states that were come to.
func walk(t *testing.T, r *rand.Rand, calls int) []int {
	t.Helper()
	l, tries := chance(r, r.IntN(3)), 1+r.IntN(api.MaxTries)
	n, m := side(t, l, tries), model{tries: tries, own: l, lastId: -1}
	var states []int
	for range calls {
		var got, want []api.Packet
		var e, f api.Errno
		if r.IntN(3) == 0 {
			event := []int{0, 2, 4, 4, r.IntN(7) - 1}[r.IntN(5)]
			got, e = n.Do(event)
			want, f = m.do(event)
		} else {
			p := m.packet(r)
			got, e = n.Take(p)
			want, f = m.take(p)
		}
		if !same(got, want) || e != f || n.State() != m.state || n.Own() != m.own || n.Other() != m.other || n.Left() != m.left {
			t.Errorf("%s, %d, %+v, want %s, %d, %+v", shown(got...), e, *n, shown(want...), f, m)
			return nil
		}
		states = append(states, m.state)
	}
	return states
}

// P15.2, P15.3: rows of calls by chance, which come to each state.
func TestWalks(t *testing.T) {
	var come [10]int
	for seed := range uint64(300) {
		for _, state := range walk(t, rand.New(rand.NewPCG(seed, 15)), 400) {
			come[state]++
		}
	}
	for state, times := range come {
		if times < 500 {
			t.Errorf("state %d is come to %d times only", state, times)
		}
	}
}

// R5: each side has its own, and several may be worked on at one time.
func TestAtOneTime(t *testing.T) {
	var all sync.WaitGroup
	for seed := range uint64(8) {
		all.Go(func() { walk(t, rand.New(rand.NewPCG(15, seed)), 500) })
	}
	all.Wait()
	a, b := side(t, some, 2), side(t, some, 2)
	a.Do(api.EventOpen)
	a.Do(api.EventUp)
	isIn(t, b, api.StateInitial)
	has(t, b, some, api.Link{}, 0)
}

// Thousands of ticks, each with the greatest packet that there can be.
func TestSize(t *testing.T) {
	n := at(t, some, api.StateOpened)
	wide := make([]api.Opt, (api.MaxFrame-4)/2)
	for range api.MaxTicks {
		ps, e := n.Take(req(9, wide...))
		if e != api.OK || len(ps) == 0 || ps[len(ps)-1].Code != api.CodeConfRej || len(ps[len(ps)-1].Opts) != len(wide) {
			t.Fatalf("%d packets, %d", len(ps), e)
		}
	}
}

func BenchmarkOpen(b *testing.B) {
	for b.Loop() {
		n, _ := New(some, 3)
		n.Do(api.EventOpen)
		n.Do(api.EventUp)
		n.Take(ack(1, someAsks...))
		n.Take(req(1, good))
	}
}
