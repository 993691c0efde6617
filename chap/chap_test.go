package chap

import (
	"crypto/md5"
	"fmt"
	"math"
	"math/rand/v2"
	"reflect"
	"slices"
	"strings"
	"sync"
	"testing"
	"unsafe"

	"withy/api"
	"withy/chapmsg"
)

// The two sides of most tests: each one's name, secret and challenge. To a
// tells a what b knows, and the other way round.
const (
	nameOfA, secretOfA, challengeOfA = "a's end", "willow", "who is there?"
	nameOfB, secretOfB, challengeOfB = "b's end", "osier", "and who are you?"
)

// noTries are numbers that are not from 1 to MaxTries, some of them with low
// bits that would be.
var noTries = []int{0, api.MaxTries + 1, 100, 257, 1<<16 + 1, 1<<32 + 1, math.MaxInt, -1, -255, 1 - 1<<32, math.MinInt, math.MinInt + 1}

// noIds are numbers that are no id, some of them with low bits that would be 1.
var noIds = []int{-1, 256, 257, -255, 1<<16 + 1, 1<<32 + 1, math.MaxInt, math.MinInt, math.MinInt + 1}

// refused are messages that layer 6 refuses.
var refused = []api.Chap{
	{}, {Id: 1, Name: "ok"}, {Code: -1, Id: 1}, {Code: 5, Id: 1}, {Code: 259, Id: 1}, {Code: 1<<32 + 3, Id: 1}, {Code: math.MinInt},
	{Code: api.ChapChallenge, Id: 1}, {Code: api.ChapResponse, Id: 1, Name: "b"},
	{Code: api.ChapChallenge, Id: 1, Value: strings.Repeat("v", 256)}, {Code: api.ChapResponse, Id: 1, Value: strings.Repeat("v", 256)},
	{Code: api.ChapSuccess, Id: 1, Value: "v"}, {Code: api.ChapFailure, Id: 1, Value: "v"},
	{Code: api.ChapChallenge, Id: 1, Value: "v", Name: strings.Repeat("n", api.MaxData+1)},
	{Code: api.ChapResponse, Id: 1, Value: "v", Name: strings.Repeat("n", api.MaxData+1)},
	{Code: api.ChapSuccess, Id: 1, Name: strings.Repeat("n", api.MaxData+1)},
	{Code: api.ChapFailure, Id: 1, Name: strings.Repeat("n", api.MaxText)},
}

// side gives a's end, which has up to so many tries.
func side(t *testing.T, tries int) *Proof {
	t.Helper()
	return made(t, nameOfA, secretOfA, secretOfB, tries)
}

// made gives what New makes of what it can't refuse.
func made(t *testing.T, name, secret, expect string, tries int) *Proof {
	t.Helper()
	p, e := New(name, secret, expect, tries)
	if p == nil || e != api.OK {
		t.Fatalf("New(%.80q, %.80q, %.80q, %d) = %v, %d", name, secret, expect, tries, p, e)
	}
	return p
}

// started gives a's end behind Start.
func started(t *testing.T, tries int) *Proof {
	t.Helper()
	p := side(t, tries)
	starts(t, p, challengeOfA, challenge(1, challengeOfA, nameOfA))
	return p
}

// proved gives a's end behind b's proof.
func proved(t *testing.T, tries int) *Proof {
	t.Helper()
	p := started(t, tries)
	takes(t, p, response(1, sumOf(1, secretOfB, challengeOfA), nameOfB), success(1))
	return p
}

// failed gives a's end behind a failure that came from b.
func failed(t *testing.T) *Proof {
	t.Helper()
	p := started(t, 3)
	takes(t, p, message(api.ChapFailure, 1, "no"))
	return p
}

// sumOf is the value that answers a challenge, by another's hand.
func sumOf(id int, secret, challenge string) string {
	x := md5.Sum([]byte(string([]byte{byte(id)}) + secret + challenge))
	return string(x[:])
}

// Messages.
func challenge(id int, value, name string) api.Chap {
	return api.Chap{Code: api.ChapChallenge, Id: id, Value: value, Name: name}
}
func response(id int, value, name string) api.Chap {
	return api.Chap{Code: api.ChapResponse, Id: id, Value: value, Name: name}
}
func message(code, id int, text string) api.Chap {
	return api.Chap{Code: code, Id: id, Name: text}
}
func success(id int) api.Chap { return message(api.ChapSuccess, id, "ok") }
func failure(id int) api.Chap { return message(api.ChapFailure, id, "no") }

// shown gives the beginning of each of cs, to be read.
func shown(cs ...api.Chap) string {
	x := ""
	for _, c := range cs {
		x += fmt.Sprintf(" {%d %d %.80q %.80q}", c.Code, c.Id, c.Value, c.Name)
	}
	return "[" + x + " ]"
}

// starts holds Start to the message that it gives.
func starts(t *testing.T, p *Proof, with string, want api.Chap) {
	t.Helper()
	if c, e := p.Start(with); c != want || e != api.OK {
		t.Errorf("Start(%.80q) = %s, %d, want %s", with, shown(c), e, shown(want))
	}
}

// startRefuses holds Start to an error alone (R2), which changes nothing (R5).
func startRefuses(t *testing.T, p *Proof, with string, want api.Errno) {
	t.Helper()
	was := kept(p)
	if c, e := p.Start(with); c != (api.Chap{}) || e != want || kept(p) != was {
		t.Errorf("Start(%.80q) = %s, %d, want the error %d alone", with, shown(c), e, want)
	}
}

// againGives holds Again to the message that it gives.
func againGives(t *testing.T, p *Proof, want api.Chap) {
	t.Helper()
	if c, e := p.Again(); c != want || e != api.OK {
		t.Errorf("Again() = %s, %d, want %s", shown(c), e, shown(want))
	}
}

// againRefuses holds Again to an error alone (R2).
func againRefuses(t *testing.T, p *Proof, want api.Errno) {
	t.Helper()
	if c, e := p.Again(); c != (api.Chap{}) || e != want {
		t.Errorf("Again() = %s, %d, want the error %d alone", shown(c), e, want)
	}
}

// takes holds Take to the messages that it gives.
func takes(t *testing.T, p *Proof, c api.Chap, want ...api.Chap) {
	t.Helper()
	if cs, e := p.Take(c); !slices.Equal(cs, want) || e != api.OK {
		t.Errorf("Take(%s) = %s, %d, want %s", shown(c), shown(cs...), e, shown(want...))
	}
}

// lets holds Take to giving nothing and changing nothing.
func lets(t *testing.T, p *Proof, c api.Chap) {
	t.Helper()
	was := kept(p)
	takes(t, p, c)
	if kept(p) != was {
		t.Errorf("Take(%s) has changed the side", shown(c))
	}
}

// takeRefuses holds Take to an error alone (R2), which changes nothing (R5).
func takeRefuses(t *testing.T, p *Proof, c api.Chap, want api.Errno) {
	t.Helper()
	was := kept(p)
	if cs, e := p.Take(c); len(cs) != 0 || e != want || kept(p) != was {
		t.Errorf("Take(%s) = %s, %d, want the error %d alone", shown(c), shown(cs...), e, want)
	}
}

// kept is all that a side keeps.
func kept(p *Proof) Proof {
	if p == nil {
		return Proof{}
	}
	return *p
}

// tells holds Proved, Taken and Failed to what they tell.
func tells(t *testing.T, p *Proof, proved, taken, failed bool) {
	t.Helper()
	if p.Proved() != proved || p.Taken() != taken || p.Failed() != failed {
		t.Errorf("proved %t, taken %t, failed %t, want %t, %t, %t", p.Proved(), p.Taken(), p.Failed(), proved, taken, failed)
	}
}

// P16.1: nothing is proved, taken or failed at first; the ends of what may be.
func TestNew(t *testing.T) {
	for _, name := range []string{"", "n", strings.Repeat("n", api.MaxName), "\x00\xff\x80"} {
		for _, secret := range []string{"s", "\x00", strings.Repeat("s", api.MaxSecret), strings.Repeat("\xff", api.MaxSecret)} {
			for _, expect := range []string{"e", "\x00", strings.Repeat("e", api.MaxSecret), secret} {
				for _, tries := range []int{1, 2, api.MaxTries} {
					p := made(t, name, secret, expect, tries)
					tells(t, p, false, false, false)
					takes(t, p, challenge(9, "x", "y"), response(9, sumOf(9, secret, "x"), name))
					starts(t, p, "z", challenge(1, "z", name))
					takes(t, p, response(1, sumOf(1, expect, "z"), "y"), success(1))
					tells(t, p, true, false, false)
				}
			}
		}
	}
}

// P16.1: a name, a secret and tries that may not be. Bytes are counted.
func TestNewForm(t *testing.T) {
	newRefuses := func(name, secret, expect string, tries int) {
		t.Helper()
		if p, e := New(name, secret, expect, tries); p != nil || e != api.ErrProofForm {
			t.Errorf("New(%.80q, %.80q, %.80q, %d) = %v, %d", name, secret, expect, tries, p, e)
		}
	}
	for _, name := range []string{strings.Repeat("n", api.MaxName+1), strings.Repeat("€", 11), strings.Repeat("n", 256), strings.Repeat("n", api.MaxText)} {
		newRefuses(name, secretOfA, secretOfB, 3)
	}
	for _, secret := range []string{"", strings.Repeat("s", api.MaxSecret+1), strings.Repeat("€", 22), strings.Repeat("s", 257), strings.Repeat("s", api.MaxText)} {
		newRefuses(nameOfA, secret, secretOfB, 3)
		newRefuses(nameOfA, secretOfA, secret, 3)
		newRefuses(nameOfA, secret, secret, 3)
	}
	for _, tries := range noTries {
		newRefuses(nameOfA, secretOfA, secretOfB, tries)
	}
}

// P16.1: the message that Start gives; it uses up no try and proves nothing.
func TestStart(t *testing.T) {
	for size := 1; size <= 255; size++ {
		with := strings.Repeat("\x00\xff?", size)[:size]
		p := side(t, 2)
		starts(t, p, with, challenge(1, with, nameOfA))
		tells(t, p, false, false, false)
		againGives(t, p, challenge(1, with, nameOfA))
		takes(t, p, response(1, sumOf(1, secretOfB, with), nameOfB), success(1))
	}
}

// P16.1: challenges that may not be; behind them one that may is started.
func TestStartForm(t *testing.T) {
	p := side(t, 1)
	wrong := []string{"", strings.Repeat("c", 256), strings.Repeat("€", 86), strings.Repeat("c", 257), strings.Repeat("c", api.MaxText)}
	for _, with := range wrong {
		startRefuses(t, p, with, api.ErrProofForm)
	}
	tells(t, p, false, false, false)
	starts(t, p, challengeOfA, challenge(1, challengeOfA, nameOfA))
	// R6: the form is told first.
	for _, p := range []*Proof{p, failed(t), proved(t, 3)} {
		for _, with := range wrong {
			startRefuses(t, p, with, api.ErrProofForm)
		}
	}
}

// P16.1: a side starts once, and not behind a failure.
func TestStartNever(t *testing.T) {
	never := side(t, 3)
	takes(t, never, message(api.ChapFailure, 7, ""))
	worn := started(t, 1)
	againRefuses(t, worn, api.ErrProofNever)
	deceived := started(t, 3)
	takes(t, deceived, response(1, "x", nameOfB), failure(1))
	for _, p := range []*Proof{started(t, 3), proved(t, 3), failed(t), never, worn, deceived} {
		startRefuses(t, p, challengeOfA, api.ErrProofNever)
		startRefuses(t, p, "another", api.ErrProofNever)
	}
	p := started(t, 3)
	startRefuses(t, p, "another", api.ErrProofNever)
	againGives(t, p, challenge(1, challengeOfA, nameOfA))
	takes(t, p, response(1, sumOf(1, secretOfB, challengeOfA), nameOfB), success(1))
}

// P16.1: what came from the other side ahead of Start hinders it not.
func TestStartLate(t *testing.T) {
	p := side(t, 3)
	takes(t, p, challenge(4, challengeOfB, nameOfB), response(4, sumOf(4, secretOfA, challengeOfB), nameOfA))
	takes(t, p, success(4))
	tells(t, p, false, true, false)
	starts(t, p, challengeOfA, challenge(1, challengeOfA, nameOfA))
	tells(t, p, false, true, false)
}

// P16.1: each of the tries asks once, Start's being the first of them; behind
// the last the side has failed.
func TestAgain(t *testing.T) {
	for tries := 1; tries <= api.MaxTries; tries++ {
		p := started(t, tries)
		for range tries - 1 {
			againGives(t, p, challenge(1, challengeOfA, nameOfA))
			tells(t, p, false, false, false)
		}
		for range 3 {
			againRefuses(t, p, api.ErrProofNever)
			tells(t, p, false, false, true)
		}
	}
}

// P16.1: ahead of Start Again is refused and uses up no try.
func TestAgainAheadOfStart(t *testing.T) {
	p := side(t, 2)
	for range 5 {
		againRefuses(t, p, api.ErrProofNever)
		tells(t, p, false, false, false)
	}
	starts(t, p, challengeOfA, challenge(1, challengeOfA, nameOfA))
	againGives(t, p, challenge(1, challengeOfA, nameOfA))
	againRefuses(t, p, api.ErrProofNever)
	tells(t, p, false, false, true)
}

// P16.1: behind a proof Again is refused, however few tries were left, and
// nothing fails by it; behind a failure too.
func TestAgainNever(t *testing.T) {
	for tries := 1; tries <= 3; tries++ {
		p := proved(t, tries)
		for range 5 {
			againRefuses(t, p, api.ErrProofNever)
			tells(t, p, true, false, false)
		}
	}
	p := failed(t)
	was := kept(p)
	againRefuses(t, p, api.ErrProofNever)
	if kept(p) != was {
		t.Error("Again behind a failure has changed the side")
	}
	p = started(t, 2)
	takes(t, p, success(1))
	againGives(t, p, challenge(1, challengeOfA, nameOfA))
	againRefuses(t, p, api.ErrProofNever)
	tells(t, p, false, true, true)
}

// P16.2: what layer 6 refuses, at each time, and behind a failure too (R6).
func TestTakeForm(t *testing.T) {
	all := slices.Clone(refused)
	for _, id := range noIds {
		all = append(all, challenge(id, "v", "n"), response(id, sumOf(1, secretOfB, challengeOfA), nameOfB), success(id), failure(id))
	}
	for _, c := range all {
		if _, e := chapmsg.Put(c); e == api.OK {
			t.Errorf("layer 6 takes %s", shown(c))
		}
		for _, p := range []*Proof{side(t, 3), started(t, 3), proved(t, 3), failed(t)} {
			takeRefuses(t, p, c, api.ErrProofForm)
		}
	}
}

// P16.2: a challenge is answered at each time but behind a failure, whatever
// its id and its size; it changes nothing.
func TestTakeChallenge(t *testing.T) {
	for i, p := range []*Proof{side(t, 1), started(t, 1), proved(t, 1)} {
		was := kept(p)
		for id := range 256 {
			value := strings.Repeat("\xffwho?", 51)[:1+(id+85*i)%255]
			want := response(id, sumOf(id, secretOfA, value), nameOfA)
			takes(t, p, challenge(id, value, ""), want)
			takes(t, p, challenge(id, value, strings.Repeat("n", api.MaxData)), want)
		}
		takes(t, p, challenge(1, challengeOfA, nameOfA), response(1, sumOf(1, secretOfA, challengeOfA), nameOfA))
		if kept(p) != was {
			t.Error("challenges have changed the side")
		}
	}
}

// P16.2: a response ahead of Start, or of another id than the challenge's, is
// let go, whatever its value.
func TestTakeResponseOfAnother(t *testing.T) {
	right := sumOf(1, secretOfB, challengeOfA)
	for id := range 256 {
		lets(t, side(t, 3), response(id, right, nameOfB))
		lets(t, side(t, 3), response(id, sumOf(id, secretOfB, ""), nameOfB))
		if id == 1 {
			continue
		}
		for _, p := range []*Proof{started(t, 3), proved(t, 3)} {
			lets(t, p, response(id, right, nameOfB))
			lets(t, p, response(id, sumOf(id, secretOfB, challengeOfA), nameOfB))
			lets(t, p, response(id, "wrong", nameOfB))
		}
	}
}

// P16.2: the right value proves the other side, whatever name it gives.
func TestTakeRightResponse(t *testing.T) {
	for _, name := range []string{"", nameOfB, nameOfA, strings.Repeat("n", api.MaxData)} {
		p := started(t, 3)
		takes(t, p, response(1, sumOf(1, secretOfB, challengeOfA), name), success(1))
		tells(t, p, true, false, false)
	}
	p := started(t, 3)
	againGives(t, p, challenge(1, challengeOfA, nameOfA))
	againGives(t, p, challenge(1, challengeOfA, nameOfA))
	takes(t, p, response(1, sumOf(1, secretOfB, challengeOfA), nameOfB), success(1))
	tells(t, p, true, false, false)
}

// P16.2: any other value fails, and so the right one behind it.
func TestTakeWrongResponse(t *testing.T) {
	right := sumOf(1, secretOfB, challengeOfA)
	wrong := []string{
		"x", right[:15], right[1:], right + "\x00", right + right, "\x00" + right, strings.Repeat("\x00", 16), strings.Repeat("v", 255),
		sumOf(1, secretOfA, challengeOfA), sumOf(0, secretOfB, challengeOfA), sumOf(2, secretOfB, challengeOfA),
		sumOf(1, secretOfB, challengeOfB), sumOf(1, "", challengeOfA), sumOf(1, secretOfB, ""), secretOfB, challengeOfA,
		sumOf(1, challengeOfA, secretOfB), sumOf(1, secretOfB+" ", challengeOfA), fmt.Sprintf("%x", right), strings.ToUpper(right), strings.ToLower(right),
	}
	for i := range 16 * 8 {
		b := []byte(right)
		b[i/8] ^= 1 << (i % 8)
		wrong = append(wrong, string(b))
	}
	for _, value := range wrong {
		if value == right {
			continue
		}
		p := started(t, 3)
		takes(t, p, response(1, value, nameOfB), failure(1))
		tells(t, p, false, false, true)
		lets(t, p, response(1, right, nameOfB))
		tells(t, p, false, false, true)
	}
}

// P16.2: whoever has proved itself stays so: each response of the challenge's
// id is told the success again, whatever its value.
func TestTakeResponseAgain(t *testing.T) {
	p := proved(t, 1)
	for _, value := range []string{sumOf(1, secretOfB, challengeOfA), "wrong", sumOf(1, secretOfA, challengeOfA), strings.Repeat("v", 255)} {
		for range 2 {
			takes(t, p, response(1, value, ""), success(1))
			tells(t, p, true, false, false)
		}
	}
}

// P16.2: a success tells that the proof is taken, of whatever id and at
// whatever time; it hinders nothing.
func TestTakeSuccess(t *testing.T) {
	for id := range 256 {
		for _, text := range []string{"", "ok", "no", strings.Repeat("n", api.MaxData)} {
			p := side(t, 3)
			takes(t, p, message(api.ChapSuccess, id, text))
			tells(t, p, false, true, false)
		}
	}
	p := proved(t, 3)
	takes(t, p, success(1))
	lets(t, p, success(1))
	tells(t, p, true, true, false)
	p = started(t, 3)
	takes(t, p, success(1))
	takes(t, p, response(1, "wrong", nameOfB), failure(1))
	tells(t, p, false, true, true)
}

// P16.2: a failure of whatever id and at whatever time; what was proved and
// taken ahead of it stays told.
func TestTakeFailure(t *testing.T) {
	for id := range 256 {
		for _, text := range []string{"", "ok", "no", strings.Repeat("n", api.MaxData)} {
			p := side(t, 3)
			takes(t, p, message(api.ChapFailure, id, text))
			tells(t, p, false, false, true)
		}
	}
	p := proved(t, 3)
	takes(t, p, success(1))
	takes(t, p, failure(1))
	tells(t, p, true, true, true)
}

// P16.2: behind a failure nothing is answered and nothing changes, whichever
// way it came.
func TestBehindFailure(t *testing.T) {
	worn := started(t, 1)
	againRefuses(t, worn, api.ErrProofNever)
	deceived := started(t, 3)
	takes(t, deceived, response(1, "x", nameOfB), failure(1))
	early := side(t, 3)
	takes(t, early, failure(1))
	late := proved(t, 3)
	takes(t, late, failure(1))
	for _, p := range []*Proof{worn, deceived, early, late, failed(t)} {
		lets(t, p, challenge(1, challengeOfB, nameOfB))
		lets(t, p, response(1, sumOf(1, secretOfB, challengeOfA), nameOfB))
		lets(t, p, response(1, "wrong", nameOfB))
		lets(t, p, success(1))
		lets(t, p, failure(1))
		againRefuses(t, p, api.ErrProofNever)
		startRefuses(t, p, challengeOfA, api.ErrProofNever)
		tells(t, p, p == late, false, true)
	}
}

// line is two sides and what is on its way from each.
type line struct {
	sides [2]*Proof
	ways  [2][]api.Chap
}

// joined gives the line of two sides, a that has a secret and expects one, and
// b likewise, both started.
func joined(t *testing.T, secretA, expectA, secretB, expectB string) *line {
	t.Helper()
	l := &line{sides: [2]*Proof{made(t, nameOfA, secretA, expectA, 10), made(t, nameOfB, secretB, expectB, 10)}}
	for i, with := range []string{challengeOfA, challengeOfB} {
		c, e := l.sides[i].Start(with)
		if e != api.OK {
			t.Fatalf("Start(%q) = %d", with, e)
		}
		l.ways[i] = append(l.ways[i], c)
	}
	return l
}

// comes has the first message from a side come to the other, over bytes.
func (l *line) comes(t *testing.T, from int) {
	t.Helper()
	x, e := chapmsg.Put(l.ways[from][0])
	c, f := chapmsg.Get(x)
	if e != api.OK || f != api.OK || c != l.ways[from][0] {
		t.Fatalf("%s comes as %s", shown(l.ways[from][0]), shown(c))
	}
	l.ways[from] = l.ways[from][1:]
	cs, e := l.sides[1-from].Take(c)
	if e != api.OK {
		t.Fatalf("Take(%s) = %d", shown(c), e)
	}
	l.ways[1-from] = append(l.ways[1-from], cs...)
}

// mixed has what is on its way come, from sides by chance, till nothing is or
// a bound is come to. Some messages are lost or doubled, if faulty; then what
// is unanswered is asked again.
func (l *line) mixed(t *testing.T, r *rand.Rand, faulty bool) {
	t.Helper()
	for range 200 {
		from := r.IntN(2)
		if len(l.ways[from]) > 0 {
			switch r.IntN(6) {
			case 0:
				if faulty {
					l.ways[from] = l.ways[from][1:]
					break
				}
				fallthrough
			case 1:
				if faulty {
					l.ways[from] = append(l.ways[from], l.ways[from][0])
				}
				fallthrough
			default:
				l.comes(t, from)
			}
		} else if faulty {
			if c, e := l.sides[from].Again(); e == api.OK {
				l.ways[from] = append(l.ways[from], c)
			}
		}
	}
}

// P16.1, P16.2: two sides that know what they expect of one another prove
// themselves both, in each row in which the messages may come.
func TestBothProve(t *testing.T) {
	for row := range 1 << 6 {
		l := joined(t, secretOfA, secretOfB, secretOfB, secretOfA)
		for step := 0; len(l.ways[0])+len(l.ways[1]) > 0 && step < 6; step++ {
			from := row >> step & 1
			if len(l.ways[from]) == 0 {
				from = 1 - from
			}
			l.comes(t, from)
		}
		for _, p := range l.sides {
			tells(t, p, true, true, false)
		}
		if len(l.ways[0])+len(l.ways[1]) > 0 {
			t.Fatalf("row %d: there is no end", row)
		}
	}
}

// P16.2: one secret may be both's.
func TestOneSecret(t *testing.T) {
	l := joined(t, secretOfA, secretOfA, secretOfA, secretOfA)
	l.mixed(t, rand.New(rand.NewPCG(16, 2)), false)
	for _, p := range l.sides {
		tells(t, p, true, true, false)
	}
}

// T4: a side is proved only if it knows what the other expects, and taken only
// if that one says so, whatever is lost or comes twice.
func TestNoneProvesWithoutSecret(t *testing.T) {
	secrets, times := []string{secretOfA, secretOfB, "reed"}, 0
	for seed := range uint64(2000) {
		r := rand.New(rand.NewPCG(seed, 4))
		secretA, secretB := secrets[r.IntN(3)], secrets[r.IntN(3)]
		expectA, expectB := secrets[r.IntN(3)], secrets[r.IntN(3)]
		l := joined(t, secretA, expectA, secretB, expectB)
		l.mixed(t, r, seed%2 == 0)
		a, b := l.sides[0], l.sides[1]
		if a.Proved() && secretB != expectA || b.Proved() && secretA != expectB {
			t.Fatalf("seed %d: one is proved that does not know the secret", seed)
		}
		if a.Taken() && !b.Proved() || b.Taken() && !a.Proved() {
			t.Fatalf("seed %d: one's proof is taken that has not proved itself", seed)
		}
		if a.Proved() && b.Proved() {
			times++
		}
	}
	if times < 100 {
		t.Errorf("both have proved themselves %d times only", times)
	}
}

// R3: a nil pointer.
func TestNil(t *testing.T) {
	var p *Proof
	for _, with := range []string{"", challengeOfA, strings.Repeat("c", 256)} {
		startRefuses(t, p, with, api.ErrNil)
	}
	for _, c := range append([]api.Chap{challenge(1, "v", "n"), response(1, "v", "n"), success(1), failure(1)}, refused...) {
		takeRefuses(t, p, c, api.ErrNil)
	}
	againRefuses(t, p, api.ErrNil)
	tells(t, p, false, false, false)
}

// R1: a side that New did not make.
func TestZero(t *testing.T) {
	r := rand.New(rand.NewPCG(16, 3))
	for range 100 {
		p := &Proof{}
		tells(t, p, false, false, false)
		for range 50 {
			p.Start(strings.Repeat("c", r.IntN(3)))
			p.Take(chance(r))
			p.Again()
		}
	}
}

// texts gives all texts that v has in it.
func texts(v reflect.Value) []string {
	var all []string
	switch v.Kind() {
	case reflect.String:
		return []string{v.String()}
	case reflect.Struct:
		for i := range v.NumField() {
			all = append(all, texts(v.Field(i))...)
		}
	case reflect.Slice, reflect.Array:
		for i := range v.Len() {
			all = append(all, texts(v.Index(i))...)
		}
	}
	return all
}

// apart fails if two things have a text in the same memory.
func apart(t *testing.T, a, b any) {
	t.Helper()
	for _, x := range texts(reflect.ValueOf(a)) {
		for _, y := range texts(reflect.ValueOf(b)) {
			if x != "" && unsafe.StringData(x) == unsafe.StringData(y) {
				t.Errorf("%q is shared", x)
			}
		}
	}
}

// fresh gives a text in memory of its own.
func fresh(x string) string {
	return string([]byte(x))
}

// R4: what is answered shares no memory with what was handed in, with another
// answer, nor with what the side holds.
func TestApart(t *testing.T) {
	in := []string{fresh(nameOfA), fresh(secretOfA), fresh(secretOfB), fresh(challengeOfA)}
	p := made(t, in[0], in[1], in[2], 3)
	var answers []api.Chap
	c, _ := p.Start(in[3])
	answers = append(answers, c)
	for range 2 {
		c, _ = p.Again()
		answers = append(answers, c)
	}
	for _, c := range []api.Chap{
		challenge(3, fresh(challengeOfB), fresh(nameOfB)), challenge(3, fresh(challengeOfB), fresh(nameOfB)),
		response(1, sumOf(1, secretOfB, challengeOfA), fresh(nameOfB)), response(1, fresh("x"), fresh(nameOfB)), success(1),
	} {
		cs, _ := p.Take(c)
		apart(t, c, *p)
		apart(t, c, cs)
		answers = append(answers, cs...)
	}
	for range 2 {
		p := started(t, 3)
		cs, _ := p.Take(response(1, "x", ""))
		answers = append(answers, cs...)
	}
	if len(answers) != 9 {
		t.Fatalf("%d answers", len(answers))
	}
	apart(t, in, *p)
	for i, c := range answers {
		apart(t, c, *p)
		apart(t, c, in)
		apart(t, c.Value, c.Name)
		apart(t, c, answers[i+1:])
	}
	if in[0] != nameOfA || in[3] != challengeOfA {
		t.Error("what was handed in has changed")
	}
}

// R4: what is done with an answer changes nothing that the side tells.
func TestAnswersAreNew(t *testing.T) {
	p := proved(t, 3)
	for _, c := range []api.Chap{challenge(3, "c", "b"), response(1, "x", "b")} {
		first, _ := p.Take(c)
		want := slices.Clone(first)
		clear(first[:cap(first)])
		takes(t, p, c, want...)
	}
}

// model is what the chapter says, in the plainest way.
type model struct {
	name, secret, expect, challenge string
	left                            int
	started, proved, taken, failed  bool
}

// start is Start.
func (m *model) start(with string) (api.Chap, api.Errno) {
	if len(with) == 0 || len(with) > 255 {
		return api.Chap{}, api.ErrProofForm
	}
	if m.started || m.failed {
		return api.Chap{}, api.ErrProofNever
	}
	m.started, m.challenge = true, with
	return challenge(1, with, m.name), api.OK
}

// again is Again.
func (m *model) again() (api.Chap, api.Errno) {
	if !m.started || m.proved || m.failed {
		return api.Chap{}, api.ErrProofNever
	}
	m.left--
	if m.left == 0 {
		m.failed = true
		return api.Chap{}, api.ErrProofNever
	}
	return challenge(1, m.challenge, m.name), api.OK
}

// take is Take.
func (m *model) take(c api.Chap) ([]api.Chap, api.Errno) {
	if _, e := chapmsg.Put(c); e != api.OK {
		return nil, api.ErrProofForm
	}
	if m.failed {
		return nil, api.OK
	}
	switch c.Code {
	case 1:
		return []api.Chap{response(c.Id, sumOf(c.Id, m.secret, c.Value), m.name)}, api.OK
	case 2:
		if !m.started || c.Id != 1 {
			return nil, api.OK
		}
		if !m.proved && c.Value != sumOf(1, m.expect, m.challenge) {
			m.failed = true
			return []api.Chap{failure(1)}, api.OK
		}
		m.proved = true
		return []api.Chap{success(1)}, api.OK
	case 3:
		m.taken = true
	case 4:
		m.failed = true
	}
	return nil, api.OK
}

// chance gives a message by chance: most of them may be.
func chance(r *rand.Rand) api.Chap {
	c := api.Chap{Code: 1 + r.IntN(3), Id: []int{1, 1, r.IntN(256), r.IntN(260) - 2}[r.IntN(4)], Name: strings.Repeat("n", r.IntN(5))}
	if c.Code < api.ChapSuccess {
		c.Value = strings.Repeat("v", 1+r.IntN(20))
	}
	switch r.IntN(60) {
	case 0:
		c.Code = r.IntN(8) - 1
	case 1:
		c.Value = strings.Repeat("w", r.IntN(300))
	case 2:
		c.Name = strings.Repeat("w", r.IntN(300))
	case 3:
		c = message(api.ChapFailure, r.IntN(256), "no")
	}
	return c
}

// walk holds a side to the model over a row of calls by chance; it gives the
// model behind them.
func walk(t *testing.T, r *rand.Rand, calls int) model {
	t.Helper()
	m := model{name: "n", secret: secretOfA, expect: secretOfB, left: 1 + r.IntN(api.MaxTries)}
	p := made(t, m.name, m.secret, m.expect, m.left)
	for range calls {
		var got, want []api.Chap
		var e, f api.Errno
		switch r.IntN(8) {
		case 0:
			with := strings.Repeat("c", r.IntN(300))
			a, x := p.Start(with)
			b, y := m.start(with)
			got, want, e, f = []api.Chap{a}, []api.Chap{b}, x, y
		case 1:
			a, x := p.Again()
			b, y := m.again()
			got, want, e, f = []api.Chap{a}, []api.Chap{b}, x, y
		default:
			c := chance(r)
			if c.Code == api.ChapResponse && c.Id == 1 && r.IntN(3) > 0 {
				c.Value = sumOf(1, m.expect, m.challenge)
			}
			got, e = p.Take(c)
			want, f = m.take(c)
		}
		if !slices.Equal(got, want) || e != f {
			t.Fatalf("%s, %d, want %s, %d", shown(got...), e, shown(want...), f)
		}
		tells(t, p, m.proved, m.taken, m.failed)
	}
	return m
}

// P16.1, P16.2: rows of calls by chance, which come to each end.
func TestWalks(t *testing.T) {
	var ends [8]int
	for seed := range uint64(6000) {
		m := walk(t, rand.New(rand.NewPCG(seed, 16)), 1+int(seed%40))
		end := 0
		for i, is := range []bool{m.proved, m.taken, m.failed} {
			if is {
				end |= 1 << i
			}
		}
		ends[end]++
		if t.Failed() {
			return
		}
	}
	for end, times := range ends {
		if times < 10 {
			t.Errorf("end %d is come to %d times only", end, times)
		}
	}
}

// R5: each side has its own, and several may be worked on at one time.
func TestAtOneTime(t *testing.T) {
	for seed := range uint64(8) {
		t.Run(fmt.Sprint(seed), func(t *testing.T) {
			t.Parallel()
			for row := range uint64(100) {
				walk(t, rand.New(rand.NewPCG(seed, row)), 40)
			}
		})
	}
	var all sync.WaitGroup
	a, b := proved(t, 3), side(t, 3)
	all.Go(func() { a.Take(failure(1)) })
	all.Go(func() { b.Take(success(1)) })
	all.Wait()
	tells(t, a, true, false, true)
	tells(t, b, false, true, false)
}

// Thousands of ticks, each with the greatest messages that there can be.
func TestSize(t *testing.T) {
	p := proved(t, 3)
	wide, name := strings.Repeat("v", 255), strings.Repeat("n", api.MaxData)
	want := []api.Chap{response(9, sumOf(9, secretOfA, wide), nameOfA)}
	for range api.MaxTicks {
		for _, c := range []api.Chap{challenge(9, wide, name), response(1, wide, name), message(api.ChapSuccess, 9, name)} {
			if cs, e := p.Take(c); e != api.OK || c.Code == api.ChapChallenge && !slices.Equal(cs, want) {
				t.Fatalf("Take(%s) = %s, %d", shown(c), shown(cs...), e)
			}
		}
	}
}

func BenchmarkProof(b *testing.B) {
	right := sumOf(1, secretOfB, challengeOfA)
	for b.Loop() {
		p, _ := New(nameOfA, secretOfA, secretOfB, 3)
		p.Start(challengeOfA)
		p.Take(challenge(7, challengeOfB, nameOfB))
		p.Take(response(1, right, nameOfB))
		p.Take(success(7))
	}
}
