package sched_test

import (
	"fmt"
	"math"
	"math/rand"
	"slices"
	"strconv"
	"testing"

	"virgate/api"
	"virgate/cidr"
	"virgate/client"
	"virgate/frame"
	"virgate/kv"
	"virgate/redo"
	"virgate/sched"
)

// base is the first address of the pool that most is done in.
const base = 10 << 24

var (
	pool24  = cidr.Net{Addr: base, Bits: 24}
	nextNet = cidr.Net{Addr: base + 256, Bits: 24}
)

func begin(k int, o client.Op) sched.Event {
	return sched.Event{Kind: sched.Begin, Client: k, Op: o}
}

func step(k int) sched.Event { return sched.Event{Kind: sched.Step, Client: k} }

func stop(k int) sched.Event { return sched.Event{Kind: sched.Stop, Client: k} }

func arm(n int) sched.Event { return sched.Event{Kind: sched.Arm, N: n} }

func crash(keep ...uint16) sched.Event { return sched.Event{Kind: sched.Crash, Keep: keep} }

func addNode(name string) client.Op { return client.Op{Kind: client.AddNode, Node: name} }

// happens holds that all of l happen.
func happens(t *testing.T, s *sched.Sched, l ...sched.Event) {
	t.Helper()
	for _, e := range l {
		if got := s.Do(e); got != 1 {
			t.Fatalf("%+v: %d", e, got)
		}
	}
}

// samePast tells whether both tell the same of one client.
func samePast(a, b sched.Past) bool {
	return fmt.Sprintf("%+v", a) == fmt.Sprintf("%+v", b)
}

// stands tells all that s tells, of places from -1 to 64.
func stands(s *sched.Sched) string {
	text := fmt.Sprintf("%#v %d %+v %v %v", s.Items(), s.Rev(), s.Past(), s.Active(), s.Lost())
	for k := -1; k <= 64; k++ {
		o, asks := s.Asks(k)
		text += fmt.Sprintf(" %+v %v", o, asks)
	}
	return text
}

// refused holds that none of l happens, and nothing changes.
func refused(t *testing.T, s *sched.Sched, l ...sched.Event) {
	t.Helper()
	for _, e := range l {
		ahead := stands(s)
		if got := s.Do(e); got != 0 || stands(s) != ahead {
			t.Fatalf("%+v: %d; was %s; is %s", e, got, ahead, stands(s))
		}
	}
}

// wantPast holds all that is past.
func wantPast(t *testing.T, s *sched.Sched, want ...sched.Past) {
	t.Helper()
	if got := s.Past(); !slices.EqualFunc(got, want, samePast) {
		t.Fatalf("past is %+v; want %+v", got, want)
	}
}

// wantActive holds which places are active, and that just these ask something.
func wantActive(t *testing.T, s *sched.Sched, want ...int) {
	t.Helper()
	if got := s.Active(); !slices.Equal(got, want) {
		t.Fatalf("active are %v; want %v", got, want)
	}
	for k := -2; k < 70; k++ {
		if o, asks := s.Asks(k); asks != slices.Contains(want, k) || !asks && o != (kv.Op{}) {
			t.Fatalf("%d asks %+v, %v; active are %v", k, o, asks, want)
		}
	}
}

// keys tells the keys of all that s has.
func keys(s *sched.Sched) []string {
	var l []string
	for _, it := range s.Items() {
		l = append(l, it.Key)
	}
	return l
}

// wantKeys holds the keys of all that s has, and its revision.
func wantKeys(t *testing.T, s *sched.Sched, rev int64, want ...string) {
	t.Helper()
	if got := keys(s); !slices.Equal(got, want) || s.Rev() != rev {
		t.Fatalf("there are %v, at %d; want %v, at %d", got, s.Rev(), want, rev)
	}
}

// The example: a node is added by one step.
func TestExample(t *testing.T) {
	s := sched.New(1, 9)
	happens(t, s, begin(0, addNode("n1")), step(0))
	wantKeys(t, s, 1, "node/n1")
	wantPast(t, s, sched.Past{Op: addNode("n1"), Ended: true})
	wantActive(t, s)
}

func TestNew(t *testing.T) {
	for _, n := range [][2]int{{math.MinInt, 1}, {-1, 1}, {0, 1}, {1, 1}, {2, 2}, {63, 63}, {64, 64}, {65, 64}, {math.MaxInt, 64}} {
		s := sched.New(n[0], n[0])
		wantKeys(t, s, 0)
		wantPast(t, s)
		wantActive(t, s)
		if s.Lost() {
			t.Errorf("%d: the store is dead", n[0])
		}
		var all []int
		for k := range n[1] {
			happens(t, s, begin(k, addNode("n1")))
			all = append(all, k)
		}
		wantActive(t, s, all...)
		refused(t, s, begin(n[1], addNode("n1")), begin(-1, addNode("n1")), begin(math.MaxInt, addNode("n1")), begin(math.MinInt, addNode("n1")))
	}
}

func TestKinds(t *testing.T) {
	for k, kind := range []int{sched.Begin, sched.Step, sched.Stop, sched.Arm, sched.Crash} {
		if kind != k+1 {
			t.Errorf("the kind %d is %d", k+1, kind)
		}
	}
	s := sched.New(2, 9)
	happens(t, s, begin(1, addNode("n1")))
	for _, kind := range []int{0, -1, 6, 7, 1 << 8, 1<<8 + 1, 1<<32 + 1, math.MinInt, math.MaxInt} {
		for k := range 2 {
			refused(t, s, sched.Event{Kind: kind, Client: k, Op: addNode("n1"), N: 1, Keep: []uint16{1}})
		}
	}
}

// compacts tells whether a store behind so many writes compacts ahead of the next step. It is asked by a read, which else writes nothing, and by a disk that goes away at any write.
func compacts(t *testing.T, every, writes int) bool {
	t.Helper()
	s := sched.New(1, every)
	l := []sched.Event{begin(0, client.Op{Kind: client.SetPool, Net: pool24}), step(0), step(0)}
	happens(t, s, begin(0, client.Op{Kind: client.AddPool, Net: pool24}), step(0), step(0), step(0), step(0))
	for range writes - 2 {
		happens(t, s, l...)
	}
	if s.Rev() != int64(writes) {
		t.Fatalf("%d writes; want %d", s.Rev(), writes)
	}
	happens(t, s, arm(0), l[0], step(0))
	return s.Lost()
}

// The store is compacted behind so many writes, from 1 to 1000000.
func TestEvery(t *testing.T) {
	for _, x := range []struct {
		every, writes int
		want          bool
	}{{math.MinInt, 2, true}, {-1, 2, true}, {0, 2, true}, {1, 2, true}, {2, 2, true}, {3, 2, false}, {3, 3, true}, {9, 8, false}, {9, 9, true}} {
		if got := compacts(t, x.every, x.writes); got != x.want {
			t.Errorf("every %d: compacts behind %d writes: %v", x.every, x.writes, got)
		}
	}
	// It is the same behind a crash.
	s := sched.New(1, 2)
	happens(t, s, begin(0, addNode("n1")), step(0), begin(0, addNode("n2")), step(0), crash())
	happens(t, s, begin(0, addNode("n3")), step(0), begin(0, addNode("n4")), step(0), arm(0), begin(0, addNode("n1")), step(0))
	if !s.Lost() {
		t.Error("behind a crash the store is not compacted in its turn")
	}
}

// It is never more than 1000000 writes.
func TestMostEvery(t *testing.T) {
	const most = 1000000
	s := sched.New(1, math.MaxInt)
	runs(t, s, client.Op{Kind: client.AddPool, Net: pool24})
	l := []sched.Event{begin(0, client.Op{Kind: client.SetPool, Net: pool24}), step(0), step(0)}
	for range most - 3 {
		happens(t, s, l...)
	}
	// So many writes of the disk are those of one effect, without a compaction.
	happens(t, s, arm(2))
	happens(t, s, l...)
	if s.Lost() || s.Rev() != most {
		t.Fatalf("it compacts ahead of %d writes", s.Rev())
	}
	happens(t, s, arm(0), l[0], step(0))
	if !s.Lost() {
		t.Errorf("it does not compact behind %d writes", most)
	}
}

// Clients begin where nobody is, and are past when they are Done; each is told what the store tells of what it asks.
func TestBeginAndStep(t *testing.T) {
	s := sched.New(3, 9)
	refused(t, s, step(0), stop(0), step(-1), step(3), stop(-1), stop(3), step(math.MaxInt), step(math.MinInt), stop(math.MaxInt), stop(math.MinInt))
	o := client.Op{Kind: client.AddPool, Net: pool24}
	happens(t, s, begin(2, o), begin(0, addNode("n1")))
	wantActive(t, s, 0, 2)
	refused(t, s, begin(2, o), begin(0, o), begin(0, client.Op{}), step(1), stop(1))
	for _, want := range []kv.Op{{Kind: kv.Get, Key: "lock"}, {Kind: kv.Create, Key: "lock", Val: "L"}, {Kind: kv.List, Key: "pool/"}, {Kind: kv.Create, Key: "pool/10.0.0.0-24", Val: "P\x0a\x00\x00\x00\x18\x01", If: "lock", IfRev: 1}} {
		for range 2 {
			if got, asks := s.Asks(2); !asks || got != want {
				t.Fatalf("asks %+v, %v; want %+v", got, asks, want)
			}
		}
		happens(t, s, step(2))
	}
	wantKeys(t, s, 2, "lock", "pool/10.0.0.0-24")
	first := sched.Past{Client: 2, Op: o, Ended: true}
	wantPast(t, s, first)
	wantActive(t, s, 0)
	happens(t, s, step(0), begin(0, addNode("n1")), step(0))
	second, third := sched.Past{Op: addNode("n1"), Ended: true}, sched.Past{Op: addNode("n1"), Result: client.Result{Code: api.ErrThere}, Ended: true}
	wantPast(t, s, first, second, third)
	wantKeys(t, s, 3, "lock", "node/n1", "pool/10.0.0.0-24")
	refused(t, s, step(0), step(2), stop(0))
}

// What is Done at once is past at once, and the place is not active.
func TestDoneAtOnce(t *testing.T) {
	s := sched.New(2, 9)
	none, wrong := client.Op{}, client.Op{Kind: client.Claim, Node: "n 1", L: []uint32{7}}
	happens(t, s, begin(1, none), begin(1, wrong), begin(0, client.Op{Kind: client.Free}))
	refusal := client.Result{Code: api.ErrArg}
	wantPast(t, s, sched.Past{Client: 1, Op: none, Result: refusal, Ended: true}, sched.Past{Client: 1, Op: wrong, Result: refusal, Ended: true}, sched.Past{Op: client.Op{Kind: client.Free}, Ended: true})
	wantActive(t, s)
	refused(t, s, step(1), stop(1))
}

// What was told, addresses too, is past.
func TestWhatIsTold(t *testing.T) {
	s := sched.New(1, 9)
	runs(t, s, client.Op{Kind: client.AddPool, Net: pool24}, addNode("n1"))
	runs(t, s, client.Op{Kind: client.Exact, Node: "n1", Handle: "h1", Addr: base + 70}, client.Op{Kind: client.Free, L: []uint32{base + 71, base + 70}})
	l := s.Past()
	if len(l) != 4 || !slices.Equal(l[2].Result.L, []uint32{base + 70}) || !slices.Equal(l[3].Result.L, []uint32{base + 70}) || !slices.Equal(l[3].Op.L, []uint32{base + 71, base + 70}) {
		t.Errorf("past is %+v", l)
	}
}

// runs lets clients of l, one behind the other, go on to their ends at place 0.
func runs(t *testing.T, s *sched.Sched, l ...client.Op) {
	t.Helper()
	for _, o := range l {
		happens(t, s, begin(0, o))
		for _, asks := s.Asks(0); asks; _, asks = s.Asks(0) {
			happens(t, s, step(0))
		}
	}
}

// Who is stopped is past, without having been told anything; what it did stays.
func TestStop(t *testing.T) {
	s := sched.New(2, 9)
	o := client.Op{Kind: client.AddPool, Net: pool24, L: []uint32{1}}
	happens(t, s, begin(0, o), begin(1, addNode("n1")), step(0), step(0), stop(0))
	wantPast(t, s, sched.Past{Op: o})
	wantKeys(t, s, 1, "lock")
	wantActive(t, s, 1)
	refused(t, s, stop(0), step(0))
	happens(t, s, stop(1), begin(0, addNode("n2")), step(0))
	wantPast(t, s, sched.Past{Op: o}, sched.Past{Client: 1, Op: addNode("n1")}, sched.Past{Op: addNode("n2"), Ended: true})
	wantKeys(t, s, 2, "lock", "node/n2")
}

// Where the disk goes away, ErrLost is told, from then on to all; a crash stops who is left, and opens the store anew.
func TestLost(t *testing.T) {
	s := sched.New(4, 9)
	happens(t, s, begin(0, addNode("n1")), step(0))
	happens(t, s, begin(0, addNode("n2")), begin(1, addNode("n3")), begin(3, addNode("n4")), begin(2, addNode("n5")), arm(-5))
	if s.Lost() {
		t.Error("armed alone, the store is dead")
	}
	happens(t, s, step(1))
	wantKeys(t, s, 1, "node/n1")
	first, lost := sched.Past{Op: addNode("n1"), Ended: true}, client.Result{Code: api.ErrLost}
	second := sched.Past{Client: 1, Op: addNode("n3"), Result: lost}
	wantPast(t, s, first, second)
	wantActive(t, s, 0, 2, 3)
	happens(t, s, begin(1, client.Op{Kind: client.Look, Handle: "h1"}), step(1), step(3), arm(99))
	third, fourth := sched.Past{Client: 1, Op: client.Op{Kind: client.Look, Handle: "h1"}, Result: lost}, sched.Past{Client: 3, Op: addNode("n4"), Result: lost}
	wantPast(t, s, first, second, third, fourth)
	if !s.Lost() {
		t.Error("the store is not dead")
	}
	happens(t, s, crash())
	wantPast(t, s, first, second, third, fourth, sched.Past{Op: addNode("n2")}, sched.Past{Client: 2, Op: addNode("n5")})
	wantActive(t, s)
	wantKeys(t, s, 1, "node/n1")
	if s.Lost() {
		t.Error("behind the crash the store is dead")
	}
	// The disk is not armed any more.
	happens(t, s, begin(3, addNode("n3")), step(3))
	wantKeys(t, s, 2, "node/n1", "node/n3")
}

// A disk that is armed with n is lost at the write behind n others.
func TestArm(t *testing.T) {
	for n := range 7 {
		s := sched.New(1, 9)
		happens(t, s, arm(n))
		for k := range 3 {
			// Each effect is two writes of the disk.
			happens(t, s, begin(0, addNode("n"+strconv.Itoa(k))), step(0))
			if s.Lost() != (n < 2*(k+1)) || s.Rev() != int64(min(k+1, n/2)) {
				t.Errorf("armed with %d: %v behind %d effects, at %d", n, s.Lost(), k+1, s.Rev())
			}
		}
	}
}

// Of the write at which the disk is lost a crash leaves so many bytes as Keep says: all of them, and it was done.
func TestKeep(t *testing.T) {
	done := map[bool]int{}
	for keep := range 60 {
		s := sched.New(2, 9)
		happens(t, s, begin(0, addNode("n1")), step(0), begin(0, addNode("n2")), begin(1, addNode("n3")), arm(keep%2), step(0), crash(uint16(keep), 1))
		l := []string{"node/n1"}
		if len(keys(s)) > 1 {
			l = append(l, "node/n2")
		}
		done[len(l) > 1]++
		wantKeys(t, s, int64(len(l)), l...)
		wantPast(t, s, sched.Past{Op: addNode("n1"), Ended: true}, sched.Past{Op: addNode("n2"), Result: client.Result{Code: api.ErrLost}}, sched.Past{Client: 1, Op: addNode("n3")})
		happens(t, s, begin(0, addNode("n4")), step(0))
		wantKeys(t, s, int64(len(l)+1), append(l, "node/n4")...)
	}
	if done[true] == 0 || done[false] == 0 {
		t.Errorf("of the crashes %v left all bytes", done)
	}
}

// A crash of a disk that is there lets clients go on, and all that was told stays, with its revisions.
func TestCrashOfWhatIsThere(t *testing.T) {
	for every := 1; every < 6; every++ {
		s := sched.New(3, every)
		runs(t, s, addNode("n1"), client.Op{Kind: client.AddPool, Net: pool24}, client.Op{Kind: client.Claim, Node: "n1", Addr: base})
		o := client.Op{Kind: client.AddPool, Net: nextNet}
		happens(t, s, begin(1, o), begin(2, client.Op{Kind: client.Collect}), step(1), step(1), step(2))
		ahead := stands(s)
		happens(t, s, crash(3, 2, 1), crash())
		if stands(s) != ahead {
			t.Errorf("was %s; is %s", ahead, stands(s))
		}
		happens(t, s, step(1), step(1))
		if l := s.Past(); !samePast(l[len(l)-1], sched.Past{Client: 1, Op: o, Ended: true}) {
			t.Errorf("past is %+v", l)
		}
	}
}

// A crash takes away that the disk is armed, though it was not lost by then.
func TestCrashDisarms(t *testing.T) {
	s := sched.New(1, 9)
	happens(t, s, arm(0), crash(), begin(0, addNode("n1")), step(0))
	wantKeys(t, s, 1, "node/n1")
}

func TestNil(t *testing.T) {
	var s *sched.Sched
	refused(t, s, begin(0, addNode("n1")), step(0), stop(0), arm(0), crash(), crash(1), sched.Event{})
	wantKeys(t, s, 0)
	wantPast(t, s)
	wantActive(t, s)
	if s.Lost() {
		t.Error("none is lost")
	}
}

// One that was made by hand has no disk: nothing happens.
func TestMadeByHand(t *testing.T) {
	var s sched.Sched
	refused(t, &s, begin(0, addNode("n1")), step(0), stop(0), arm(0), crash(), crash(1), sched.Event{})
	wantKeys(t, &s, 0)
	wantPast(t, &s)
	wantActive(t, &s)
	if s.Lost() {
		t.Error("made by hand it is lost")
	}
}

// Lists that are handed in are neither kept nor changed, and what was told is written into by nobody else.
func TestListsAreApart(t *testing.T) {
	s := sched.New(3, 9)
	runs(t, s, client.Op{Kind: client.AddPool, Net: pool24}, addNode("n1"), client.Op{Kind: client.Auto, Node: "n1", Handle: "h1", N: 9})
	l := []uint32{base, base + 1, base + 2}
	o := client.Op{Kind: client.Free, L: l}
	happens(t, s, begin(0, o), begin(1, o))
	clear(l)
	for _, asks := s.Asks(0); asks; _, asks = s.Asks(0) {
		happens(t, s, step(0))
	}
	happens(t, s, stop(1), begin(2, addNode("n2")))
	past := s.Past()
	if !slices.Equal(past[3].Op.L, []uint32{base, base + 1, base + 2}) || !slices.Equal(past[4].Op.L, []uint32{base, base + 1, base + 2}) {
		t.Fatalf("past is %+v", past)
	}
	ahead := stands(s)
	for _, p := range past {
		clear(p.Op.L)
		clear(p.Result.L)
		_, _ = append(p.Op.L[:min(1, len(p.Op.L))], 7), append(p.Result.L[:min(1, len(p.Result.L))], 7)
	}
	clear(past)
	clear(s.Items())
	clear(s.Active())
	keep := []uint16{5, 6}
	if stands(s) != ahead {
		t.Errorf("was %s; is %s", ahead, stands(s))
	}
	happens(t, s, sched.Event{Kind: sched.Crash, Keep: keep})
	if !slices.Equal(keep, []uint16{5, 6}) || stands(s) != ahead {
		t.Errorf("Keep is %v; was %s; is %s", keep, ahead, stands(s))
	}
}

// shadow is what a schedule must be: clients by their places, and one state, that no disk has.
type shadow struct {
	state  *kv.State
	at     map[int]*client.Client
	asked  map[int]client.Op
	past   []sched.Past
	dead   bool
	atLoss kv.Op // what was asked when the disk went away
}

func (w *shadow) ends(k int, r client.Result, ended bool) {
	w.past = append(w.past, sched.Past{Client: k, Op: w.asked[k], Result: r, Ended: ended})
	delete(w.at, k)
}

func (w *shadow) settle(k int) {
	if r, done := w.at[k].Done(); done {
		w.ends(k, r, r.Code != api.ErrLost)
	}
}

func (w *shadow) begin(k int, o client.Op) {
	w.at[k], w.asked[k] = client.New(o), o
	w.settle(k)
}

// step lets the client of k go on; lost says whether the disk has gone away by then.
func (w *shadow) step(k int, lost bool) {
	o, _ := w.at[k].Op()
	if lost && !w.dead {
		w.dead, w.atLoss = true, o
	}
	if lost {
		w.at[k].Feed(kv.Result{Code: api.ErrLost})
	} else {
		w.at[k].Feed(w.state.Do(o))
	}
	w.settle(k)
}

// crash lets the state be what was told, or one write more, if that is what l says; it tells whether it is one more.
func (w *shadow) crash(places int, l []kv.Item) bool {
	if !w.dead {
		return false
	}
	for k := range places {
		if w.at[k] != nil {
			w.ends(k, client.Result{}, false)
		}
	}
	w.dead = false
	more, _ := kv.Of(w.state.Rev(), w.state.All())
	if more.Do(w.atLoss); slices.Equal(w.state.All(), l) || !slices.Equal(more.All(), l) {
		return false
	}
	w.state = more
	return true
}

// active tells the places where a client is, rising.
func (w *shadow) active() []int {
	var l []int
	for k := range w.at {
		l = append(l, k)
	}
	slices.Sort(l)
	return l
}

// isAs holds that s tells what w has; if the disk is lost, that is the state behind all that was told.
func (w *shadow) isAs(t *testing.T, s *sched.Sched) {
	t.Helper()
	if !slices.Equal(s.Items(), w.state.All()) || s.Rev() != w.state.Rev() || s.Lost() != w.dead {
		t.Fatalf("has %#v at %d, lost: %v; want %#v at %d, lost: %v", s.Items(), s.Rev(), s.Lost(), w.state.All(), w.state.Rev(), w.dead)
	}
	wantActive(t, s, w.active()...)
	for k, c := range w.at {
		want, _ := c.Op()
		if got, asks := s.Asks(k); !asks || got != want {
			t.Fatalf("%d asks %+v, %v; want %+v", k, got, asks, want)
		}
	}
	// All of it is held at the end: what is past does not change.
	got := s.Past()
	if n := len(got); n != len(w.past) || n > 0 && !samePast(got[n-1], w.past[n-1]) {
		t.Fatalf("past is %+v; want %+v", got, w.past)
	}
}

// oneOf tells one of l, the first one most often.
func oneOf[T any](chance *rand.Rand, l ...T) T {
	return l[chance.Intn(len(l))*chance.Intn(2)]
}

// anyAsked tells anything that may be asked, of all kinds, and of one that is none; some of it is refused.
func anyAsked(chance *rand.Rand) client.Op {
	o := client.Op{Kind: 1 + chance.Intn(14), Node: oneOf(chance, "n1", "n2", "n3", "n4", ""), Handle: oneOf(chance, "h1", "h2", "h3", ""), Addr: base + uint32(chance.Intn(300)), N: chance.Intn(90) - 1, Borrow: chance.Intn(2) == 0, Open: chance.Intn(8) > 0}
	if chance.Intn(2) == 0 {
		o.Kind = client.Auto + chance.Intn(4)
	}
	o.Net = oneOf(chance, pool24, nextNet, cidr.Net{Addr: base, Bits: 23}, cidr.Net{Addr: base + 1, Bits: 24})
	for range chance.Intn(30) {
		o.L = append(o.L, base+uint32(chance.Intn(300)))
	}
	return o
}

// frameOfLoss tells how many bytes the log has more, if all of what was asked when the disk went away has come.
func (w *shadow) frameOfLoss() int {
	_, effect, _ := w.state.Plan(w.atLoss)
	b, _ := redo.Put(effect)
	b, _ = frame.Put(b)
	return len(b)
}

// anyKeep tells how much of each file a crash leaves: any of it, or, often, all of the log.
func (w *shadow) anyKeep(chance *rand.Rand) []uint16 {
	var l []uint16
	for range chance.Intn(5) {
		l = append(l, uint16(chance.Intn(1<<chance.Intn(17))))
	}
	if len(l) > 0 && w.dead && chance.Intn(2) == 0 {
		l[0] = uint16(w.frameOfLoss())
	}
	return l
}

// anyEvent tells anything that may happen; most of it are steps.
func (w *shadow) anyEvent(chance *rand.Rand, places int) sched.Event {
	e := sched.Event{Client: chance.Intn(places+2) - 1}
	if l := w.active(); len(l) > 0 && chance.Intn(3) > 0 {
		e.Client = l[chance.Intn(len(l))]
	}
	switch n := chance.Intn(400); {
	case w.dead && n%8 == 0:
		e.Kind, e.Keep = sched.Crash, w.anyKeep(chance)
	case n < 100:
		e.Kind, e.Op = sched.Begin, anyAsked(chance)
	case n < 103:
		e.Kind = sched.Stop
	case n < 108:
		e.Kind, e.N = sched.Arm, chance.Intn(24)-1
	case n < 112:
		e.Kind, e.Keep = sched.Crash, w.anyKeep(chance)
	case n < 116:
		e.Kind = chance.Intn(9) - 2
	default:
		e.Kind = sched.Step
	}
	return e
}

// tally is how often what may happen did.
type tally struct{ begun, steps, lost, more int }

// play lets so much happen at a schedule, and holds it against a shadow.
func play(t *testing.T, chance *rand.Rand, events int, n *tally) {
	t.Helper()
	places := 1 + chance.Intn(5)
	s := sched.New(places, 1+chance.Intn(20))
	w := &shadow{state: kv.New(), at: map[int]*client.Client{}, asked: map[int]client.Op{}}
	runs(t, s, client.Op{Kind: client.AddPool, Net: pool24}, addNode("n1"))
	for _, o := range []client.Op{{Kind: client.AddPool, Net: pool24}, addNode("n1")} {
		w.begin(0, o)
		for w.at[0] != nil {
			w.step(0, false)
		}
	}
	for range events {
		e := w.anyEvent(chance, places)
		isPlace := e.Client >= 0 && e.Client < places
		active := w.at[e.Client] != nil
		want := 1
		got := s.Do(e)
		switch {
		case e.Kind == sched.Begin && isPlace && !active:
			w.begin(e.Client, e.Op)
			n.begun++
		case e.Kind == sched.Step && active:
			dead := w.dead
			w.step(e.Client, s.Lost())
			n.steps++
			if w.dead && !dead {
				n.lost++
			}
		case e.Kind == sched.Stop && active:
			w.ends(e.Client, client.Result{}, false)
		case e.Kind == sched.Arm:
		case e.Kind == sched.Crash:
			if w.crash(places, s.Items()) {
				n.more++
			}
		default:
			want = 0
		}
		if got != want {
			t.Fatalf("%+v: %d; want %d", e, got, want)
		}
		w.isAs(t, s)
	}
	wantPast(t, s, w.past...)
}

// Whatever happens, what is done is what all clients ask, one thing behind the other; behind a crash that is so, or so behind one write more, the one at which the disk went away.
func TestOneBehindTheOther(t *testing.T) {
	chance := rand.New(rand.NewSource(31))
	var n tally
	for range 150 {
		play(t, chance, 500, &n)
	}
	if n.begun < 5000 || n.steps < 15000 || n.lost < 200 || n.more < 50 || n.more > n.lost-50 {
		t.Errorf("too little was tried: %+v", n)
	}
}
