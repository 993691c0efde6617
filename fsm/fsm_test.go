package fsm

import (
	"fmt"
	"math"
	"slices"
	"strings"
	"sync"
	"testing"
	"unsafe"

	"withy/api"
)

// chapter is the table as chapter 10 prints it.
const chapter = `
| Up | 2 | irc,scr/6 | - | - | - | - | - | - | - | - |
| Down | - | - | 0 | tls/1 | 0 | 1 | 1 | 1 | 1 | tld/1 |
| Open | tls/1 | 1 | irc,scr/6 | 3 | 5 | 5 | 6 | 7 | 8 | 9 |
| Close | 0 | tlf/0 | 2 | 2 | 4 | 4 | irc,str/4 | irc,str/4 | irc,str/4 | tld,irc,str/4 |
| TimeMore | - | - | - | - | str/4 | str/5 | scr/6 | scr/6 | scr/8 | - |
| TimeOver | - | - | - | - | tlf/2 | tlf/3 | tlf/3 | tlf/3 | tlf/3 | - |
| ReqGood | - | - | sta/2 | irc,scr,sca/8 | 4 | 5 | sca/8 | sca,tlu/9 | sca/8 | tld,scr,sca/8 |
| ReqBad | - | - | sta/2 | irc,scr,scn/6 | 4 | 5 | scn/6 | scn/7 | scn/6 | tld,scr,scn/6 |
| Ack | - | - | sta/2 | sta/3 | 4 | 5 | irc/7 | scr/6 | irc,tlu/9 | tld,scr/6 |
| NakRej | - | - | sta/2 | sta/3 | 4 | 5 | irc,scr/6 | scr/6 | irc,scr/8 | tld,scr/6 |
| TermReq | - | - | sta/2 | sta/3 | sta/4 | sta/5 | sta/6 | sta/6 | sta/6 | tld,zrc,sta/5 |
| TermAck | - | - | 2 | 3 | tlf/2 | tlf/3 | 6 | 6 | 8 | tld,scr/6 |
| Unknown | - | - | scj/2 | scj/3 | scj/4 | scj/5 | scj/6 | scj/7 | scj/8 | scj/9 |
| RejGood | - | - | 2 | 3 | 4 | 5 | 6 | 6 | 8 | 9 |
| RejBad | - | - | tlf/2 | tlf/3 | tlf/2 | tlf/3 | tlf/3 | tlf/3 | tlf/3 | tld,irc,str/5 |
| Echo | - | - | 2 | 3 | 4 | 5 | 6 | 7 | 8 | ser/9 |
`

// numbers are those that the chapter gives the actions.
var numbers = map[string]int{
	"tlu": 1, "tld": 2, "tls": 3, "tlf": 4, "irc": 5, "zrc": 6, "scr": 7,
	"sca": 8, "scn": 9, "str": 10, "sta": 11, "scj": 12, "ser": 13,
}

// rowNames are the events in their order.
var rowNames = []string{
	"Up", "Down", "Open", "Close", "TimeMore", "TimeOver", "ReqGood", "ReqBad",
	"Ack", "NakRej", "TermReq", "TermAck", "Unknown", "RejGood", "RejBad", "Echo",
}

// none are numbers that are no state, some of them with low bits that would be.
var none = []int{-1, -2, -10, -16, 16, 17, 100, 255, 256, 257, 1 << 16, 1<<32 | 1, math.MaxInt, math.MinInt, math.MinInt + 1}

// early tells whether the table stood ahead of the first call.
var early bool

func TestMain(m *testing.M) {
	early = table.cells[api.EventUp][api.StateInitial].happens
	m.Run()
}

// wanted gives what the chapter's table says of an event in a state: a next
// state and actions, or an error.
func wanted(state, event int) (int, []int, api.Errno) {
	row := strings.Split(strings.TrimSpace(chapter), "\n")[event]
	text := strings.TrimSpace(strings.Split(row, "|")[state+2])
	if text == "-" {
		return 0, nil, api.ErrFsmNever
	}
	var actions []int
	for len(text) > 1 {
		actions = append(actions, numbers[text[:3]])
		text = text[4:]
	}
	return strings.Index("0123456789", text), actions, api.OK
}

// stepGives fails unless Step answers so.
func stepGives(t *testing.T, state, event, next int, actions []int, e api.Errno) {
	t.Helper()
	n, as, err := Step(state, event)
	if n != next || !slices.Equal(as, actions) || err != e {
		t.Errorf("Step(%d, %d) = %d, %v, %v; want %d, %v, %v", state, event, n, as, err, next, actions, e)
	}
}

// stepRefuses fails unless Step answers the error alone (R2).
func stepRefuses(t *testing.T, state, event int, e api.Errno) {
	t.Helper()
	n, as, err := Step(state, event)
	if n != 0 || len(as) != 0 || err != e {
		t.Errorf("Step(%d, %d) = %d, %v, %v; want the error %v alone", state, event, n, as, err, e)
	}
}

// P10.1: every cell of the chapter's table.
func TestTable(t *testing.T) {
	for event, row := range strings.Split(strings.TrimSpace(chapter), "\n") {
		cells := strings.Split(row, "|")
		if len(cells) != 13 || strings.TrimSpace(cells[1]) != rowNames[event] {
			t.Fatalf("row %d of the test's table is not that of %s: %s", event, rowNames[event], row)
		}
	}
	happening := 0
	for event := range 16 {
		for state := range 10 {
			next, actions, e := wanted(state, event)
			stepGives(t, state, event, next, actions, e)
			if e == api.OK {
				happening++
			}
		}
	}
	if happening != 120 {
		t.Errorf("%d cells of the test's table happen, want 120", happening)
	}
}

// P10.1: cells written out by hand, by the names of package api.
func TestKnown(t *testing.T) {
	for _, c := range []struct {
		state, event, next int
		actions            []int
	}{
		{api.StateInitial, api.EventUp, api.StateClosed, nil},
		{api.StateInitial, api.EventOpen, api.StateStarting, []int{api.DoLayerStart}},
		{api.StateInitial, api.EventClose, api.StateInitial, nil},
		{api.StateStarting, api.EventUp, api.StateReqSent, []int{api.DoInitCount, api.DoSendReq}},
		{api.StateStarting, api.EventClose, api.StateInitial, []int{api.DoLayerFinish}},
		{api.StateClosed, api.EventReqGood, api.StateClosed, []int{api.DoSendTermAck}},
		{api.StateStopped, api.EventReqGood, api.StateAckSent, []int{api.DoInitCount, api.DoSendReq, api.DoSendAck}},
		{api.StateStopped, api.EventReqBad, api.StateReqSent, []int{api.DoInitCount, api.DoSendReq, api.DoSendNak}},
		{api.StateStopped, api.EventDown, api.StateStarting, []int{api.DoLayerStart}},
		{api.StateClosing, api.EventOpen, api.StateStopping, nil},
		{api.StateClosing, api.EventTimeMore, api.StateClosing, []int{api.DoSendTerm}},
		{api.StateClosing, api.EventTermAck, api.StateClosed, []int{api.DoLayerFinish}},
		{api.StateStopping, api.EventTermAck, api.StateStopped, []int{api.DoLayerFinish}},
		{api.StateStopping, api.EventDown, api.StateStarting, nil},
		{api.StateReqSent, api.EventTimeOver, api.StateStopped, []int{api.DoLayerFinish}},
		{api.StateReqSent, api.EventAck, api.StateAckRcvd, []int{api.DoInitCount}},
		{api.StateAckRcvd, api.EventReqGood, api.StateOpened, []int{api.DoSendAck, api.DoLayerUp}},
		{api.StateAckRcvd, api.EventRejGood, api.StateReqSent, nil},
		{api.StateAckRcvd, api.EventUnknown, api.StateAckRcvd, []int{api.DoSendCodeRej}},
		{api.StateAckSent, api.EventAck, api.StateOpened, []int{api.DoInitCount, api.DoLayerUp}},
		{api.StateAckSent, api.EventTimeMore, api.StateAckSent, []int{api.DoSendReq}},
		{api.StateOpened, api.EventOpen, api.StateOpened, nil},
		{api.StateOpened, api.EventTermReq, api.StateStopping, []int{api.DoLayerDown, api.DoZeroCount, api.DoSendTermAck}},
		{api.StateOpened, api.EventRejBad, api.StateStopping, []int{api.DoLayerDown, api.DoInitCount, api.DoSendTerm}},
		{api.StateOpened, api.EventClose, api.StateClosing, []int{api.DoLayerDown, api.DoInitCount, api.DoSendTerm}},
		{api.StateOpened, api.EventReqGood, api.StateAckSent, []int{api.DoLayerDown, api.DoSendReq, api.DoSendAck}},
		{api.StateOpened, api.EventEcho, api.StateOpened, []int{api.DoSendEcho}},
		{api.StateAckSent, api.EventEcho, api.StateAckSent, nil},
	} {
		stepGives(t, c.state, c.event, c.next, c.actions, api.OK)
	}
}

// P10.1: what the table has `-` for.
func TestNever(t *testing.T) {
	for state := api.StateClosed; state <= api.StateOpened; state++ {
		stepRefuses(t, state, api.EventUp, api.ErrFsmNever)
	}
	for _, state := range []int{api.StateInitial, api.StateStarting} {
		stepRefuses(t, state, api.EventDown, api.ErrFsmNever)
		for event := api.EventTimeMore; event <= api.EventEcho; event++ {
			stepRefuses(t, state, event, api.ErrFsmNever)
		}
	}
	for _, state := range []int{api.StateClosed, api.StateStopped, api.StateOpened} {
		stepRefuses(t, state, api.EventTimeMore, api.ErrFsmNever)
		stepRefuses(t, state, api.EventTimeOver, api.ErrFsmNever)
	}
}

// P10.1: what is no state or no event; R6: ErrFsmForm is told ahead of
// ErrFsmNever.
func TestForm(t *testing.T) {
	for _, n := range append([]int{10, 11, 15}, none...) {
		for event := range 16 {
			stepRefuses(t, n, event, api.ErrFsmForm)
		}
	}
	for _, n := range none {
		for state := range 10 {
			stepRefuses(t, state, n, api.ErrFsmForm)
		}
		for _, m := range none {
			stepRefuses(t, m, n, api.ErrFsmForm)
		}
	}
}

// Comes tells the cells that happen from those that the table has `-` for, and
// of what is no state or no event that it does not come.
func TestComes(t *testing.T) {
	for event := range 16 {
		for state := range 10 {
			_, _, e := wanted(state, event)
			if got := Comes(state, event); got != (e == api.OK) {
				t.Errorf("Comes(%d, %d) = %t", state, event, got)
			}
		}
	}
	for _, n := range append([]int{10, 11, 15}, none...) {
		for event := range 16 {
			if Comes(n, event) {
				t.Errorf("Comes(%d, %d)", n, event)
			}
		}
	}
	for _, n := range none {
		for state := range 10 {
			if Comes(state, n) {
				t.Errorf("Comes(%d, %d)", state, n)
			}
		}
	}
}

// Ways: Comes asks the table that is kept, Step hangs on nothing that is.
func TestWhoReadsTheTable(t *testing.T) {
	Comes(api.StateInitial, api.EventUp)
	was := table.cells
	defer func() { table.cells = was }()
	table.cells = [events][states]cell{}
	for event := range 16 {
		for state := range 10 {
			next, actions, e := wanted(state, event)
			stepGives(t, state, event, next, actions, e)
			if Comes(state, event) {
				t.Errorf("Comes(%d, %d) does not ask the table", state, event)
			}
		}
	}
}

// walk is a row of events from StateInitial on, and where each leads.
type walk struct {
	name   string
	events []int
	next   []int
}

// P10.1: ways through the table as sides of links go them.
func TestWalks(t *testing.T) {
	for _, w := range []walk{
		{"opened by answers, then acked", []int{api.EventOpen, api.EventUp, api.EventReqGood, api.EventAck}, []int{1, 6, 8, 9}},
		{"acked, then opened by an answer", []int{api.EventUp, api.EventOpen, api.EventAck, api.EventReqGood}, []int{2, 6, 7, 9}},
		{"naks on both sides", []int{api.EventOpen, api.EventUp, api.EventNakRej, api.EventReqBad, api.EventReqGood, api.EventNakRej, api.EventAck}, []int{1, 6, 6, 6, 8, 8, 9}},
		{"too many tries, then asked anew", []int{api.EventOpen, api.EventUp, api.EventTimeMore, api.EventTimeOver, api.EventReqGood, api.EventAck}, []int{1, 6, 6, 3, 8, 9}},
		{"closed by oneself", []int{api.EventOpen, api.EventUp, api.EventReqGood, api.EventAck, api.EventClose, api.EventTimeMore, api.EventTermAck, api.EventDown}, []int{1, 6, 8, 9, 4, 4, 2, 0}},
		{"closed by the other", []int{api.EventOpen, api.EventUp, api.EventReqGood, api.EventAck, api.EventTermReq, api.EventTimeOver, api.EventDown, api.EventClose}, []int{1, 6, 8, 9, 5, 3, 1, 0}},
		{"carrier lost and back", []int{api.EventOpen, api.EventUp, api.EventReqGood, api.EventAck, api.EventDown, api.EventUp}, []int{1, 6, 8, 9, 1, 6}},
	} {
		state := api.StateInitial
		for i, event := range w.events {
			next, _, e := Step(state, event)
			if next != w.next[i] || e != api.OK {
				t.Errorf("%s, event %d: Step(%d, %d) = %d, %v; want %d", w.name, i, state, event, next, e, w.next[i])
			}
			state = w.next[i]
		}
	}
}

// P10.1: the layer goes up where StateOpened is come to and down where it is
// left, and nowhere else; at most three actions are done, none twice.
func TestLayers(t *testing.T) {
	for event := range 16 {
		for state := range 10 {
			next, actions, e := Step(state, event)
			if e != api.OK {
				continue
			}
			up, down := state != 9 && next == 9, state == 9 && next != 9
			if slices.Contains(actions, api.DoLayerUp) != up || slices.Contains(actions, api.DoLayerDown) != down {
				t.Errorf("Step(%d, %d) = %d, %v: the layer up or down out of place", state, event, next, actions)
			}
			sorted := slices.Sorted(slices.Values(actions))
			if len(actions) > 3 || len(slices.Compact(sorted)) != len(actions) {
				t.Errorf("Step(%d, %d) does %v", state, event, actions)
			}
			if len(sorted) > 0 && (sorted[0] < api.DoLayerUp || sorted[len(sorted)-1] > api.DoSendEcho) {
				t.Errorf("Step(%d, %d) does %v, of which one is none", state, event, actions)
			}
		}
	}
}

// R4: what is answered is its own memory: what is written there, and in its
// spare room, changes no later answer.
func TestAnswersAreNew(t *testing.T) {
	for event := range 16 {
		for state := range 10 {
			next, actions, e := wanted(state, event)
			_, first, _ := Step(state, event)
			_, second, _ := Step(state, event)
			if len(first) > 0 && unsafe.SliceData(first) == unsafe.SliceData(second) {
				t.Errorf("Step(%d, %d): two answers share their actions", state, event)
			}
			for i := range first[:cap(first)] {
				first[:cap(first)][i] = -1
			}
			_ = append(first, -1, -1, -1, -1)
			if !slices.Equal(second, actions) {
				t.Errorf("Step(%d, %d): what was answered became %v", state, event, second)
			}
			stepGives(t, state, event, next, actions, e)
		}
	}
}

// R5: what a call answers does not hang on those ahead of it.
func TestAnswersStay(t *testing.T) {
	for _, ahead := range [][2]int{{9, 15}, {0, 0}, {0, 1}, {-1, 3}, {3, 99}, {9, 10}} {
		for event := range 16 {
			for state := range 10 {
				Step(ahead[0], ahead[1])
				next, actions, e := wanted(state, event)
				stepGives(t, state, event, next, actions, e)
			}
		}
	}
}

// Ways: the table is made by its owner when it is first asked for, not ahead
// of that, and once.
func TestMadeOnce(t *testing.T) {
	if early {
		t.Error("the table is made at start-up")
	}
	o := &owner{}
	for _, row := range o.cells {
		for _, c := range row {
			if c.happens {
				t.Fatal("the table is made ahead of the first question")
			}
		}
	}
	if c := o.at(api.StateOpened, api.EventEcho); !c.happens || c.next != 9 {
		t.Fatalf("the first question gives %+v", c)
	}
	o.cells[api.EventEcho][api.StateOpened].next = 77
	if c := o.at(api.StateOpened, api.EventEcho); c.next != 77 {
		t.Errorf("the table is made twice")
	}
}

// R5: several goroutines may ask at one time, the first time too.
func TestAtOneTime(t *testing.T) {
	for range 50 {
		o := &owner{}
		faults := make([]string, 16)
		begin := make(chan struct{})
		var wg sync.WaitGroup
		for event := range 16 {
			wg.Go(func() {
				<-begin
				for state := range 10 {
					next, actions, e := wanted(state, event)
					c := o.at(state, event)
					n, as, err := Step(state, event)
					if c.happens != (e == api.OK) || c.next != next || !slices.Equal(c.actions, actions) {
						faults[event] = fmt.Sprint("a new table gives ", c)
					}
					if n != next || !slices.Equal(as, actions) || err != e {
						faults[event] = fmt.Sprint("Step gives ", n, as, err)
					}
					if Comes(state, event) != (e == api.OK) {
						faults[event] = "Comes tells something else"
					}
					for i := range as {
						as[i] = -1
					}
				}
			})
		}
		close(begin)
		wg.Wait()
		for event, fault := range faults {
			if fault != "" {
				t.Errorf("event %d: %s", event, fault)
			}
		}
	}
}

func BenchmarkStep(b *testing.B) {
	for i := range b.N {
		Step(i%10, i%16)
	}
}
