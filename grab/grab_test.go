package grab_test

import (
	"slices"
	"strings"
	"testing"

	"virgate/api"
	"virgate/block"
	"virgate/grab"
	"virgate/handle"
	"virgate/image"
	"virgate/kv"
	"virgate/mach"
)

// base is the first address of the block of which addresses are given; the keys are those of it, and of h1, written by hand.
const (
	base    = 10 << 24
	blkKey  = "block/10.0.0.0-26"
	handKey = "handle/h1"
)

// Revisions that tell apart what they are of.
const (
	handRev  = 5
	blockRev = 7
)

// a is under which attribute all is given.
var a = block.Attr{Handle: "h1", Node: "n1"}

// blockOf tells the bytes of the block at base that is n1's, and of which n addresses are given under two other attributes.
func blockOf(n int) string {
	b, _ := block.New(base, "n1")
	b, _, _ = block.Assign(b, n/2, block.Attr{Handle: "h1", Node: "n2"})
	b, _, _ = block.Assign(b, n-n/2, block.Attr{Handle: "h2", Node: "n1"})
	return put(b)
}

func put(b block.Block) string {
	s, e := image.Put(b)
	if e != api.OK {
		panic("a block that is not right")
	}
	return s
}

// with tells the bytes of the block that val says once n more of it are given.
func with(val string, n int) string {
	b, _ := image.Read(val)
	b, _, _ = block.Assign(b, n, a)
	return put(b)
}

// hand tells the bytes of a handle that has n in the block at base, and some in those beside it.
func hand(n int) string {
	h, _ := handle.Set(handle.Handle{Counts: []handle.Count{{Block: base - 64, N: 1}, {Block: base + 64, N: 65535}}}, base, n)
	val, _ := handle.Put(h)
	return val
}

// alone tells the bytes of a handle that has n in the block at base, and nothing else, written by hand.
func alone(n int) string {
	return "H\x00\x01\x0a\x00\x00\x00" + string([]byte{byte(n >> 8), byte(n)})
}

func get(key string) kv.Op { return kv.Op{Kind: kv.Get, Key: key} }

func create(key, val string) kv.Op { return kv.Op{Kind: kv.Create, Key: key, Val: val} }

func update(key, val string, rev int64) kv.Op {
	return kv.Op{Kind: kv.Update, Key: key, Val: val, Rev: rev}
}

func remove(key string, rev int64) kv.Op { return kv.Op{Kind: kv.Delete, Key: key, Rev: rev} }

func found(val string, rev int64) kv.Result { return kv.Result{Val: val, Rev: rev} }

func written(rev int64) kv.Result { return kv.Result{Rev: rev} }

func refused(e api.Errno) kv.Result { return kv.Result{Code: e} }

// turn is what has to be asked, and what is told then.
type turn struct {
	asked kv.Op
	told  kv.Result
}

// ending is what has to be told at the end.
type ending struct {
	l []uint32
	e api.Errno
}

func (x ending) is(y ending) bool { return x.e == y.e && slices.Equal(x.l, y.l) }

// playProc holds that p asks just what l says, and then ends as it must; ends tells how it ended by now.
func playProc(t *testing.T, what string, p *mach.Proc, ends *[]ending, l []turn, want ending) {
	t.Helper()
	for k, x := range l {
		o, asks := p.Op()
		if !asks || o != x.asked || len(*ends) != 0 {
			t.Errorf("%s: asked %#v, %v at the step %d, ended %v; want %#v", what, o, asks, k, *ends, x.asked)
			return
		}
		p.Feed(x.told)
	}
	if o, asks := p.Op(); asks || !slices.EqualFunc(*ends, []ending{want}, ending.is) {
		t.Errorf("%s: ended %v, asks %#v, %v; want %v", what, *ends, o, asks, want)
	}
}

// play holds what a want asks of the block at base, and how it ends.
func play(t *testing.T, what string, w grab.Want, l []turn, e api.Errno, given ...uint32) {
	t.Helper()
	var ends []ending
	p := mach.New()
	grab.Go(p, base+40, w, func(l []uint32, e api.Errno) { ends = append(ends, ending{l, e}) })
	playProc(t, what, p, &ends, l, ending{given, e})
}

// some wants n, one wants addr alone.
func some(n int) grab.Want { return grab.Want{N: n, Attr: a} }

func one(addr uint32) grab.Want { return grab.Want{One: true, At: addr, Attr: a} }

// counting is how n more are counted ahead of h1, which has 3 in the block by then.
func counting(n int) []turn {
	return []turn{{get(handKey), found(hand(3), handRev)}, {update(handKey, hand(3+n), handRev), written(10)}}
}

// giving is how the block is found, and written.
func giving(val, then string) []turn {
	return []turn{{get(blkKey), found(val, blockRev)}, {update(blkKey, then, blockRev), written(11)}}
}

// backs is how n are taken back of h1, and other ways for that to end, all of which count as done.
func backs(n int) [][]turn {
	gets := turn{get(handKey), found(hand(70), 30)}
	writes := update(handKey, hand(70-n), 30)
	return [][]turn{
		{gets, {writes, written(31)}},
		{gets, {writes, refused(api.ErrStale)}, {get(handKey), found(alone(n), 32)}, {remove(handKey, 32), written(33)}},
		{{get(handKey), refused(api.ErrNone)}},
		{{get(handKey), found("", 30)}},
		slices.Repeat([]turn{gets, {writes, refused(api.ErrStale)}}, api.Retries),
	}
}

// playBack holds that l leads to taking back n, and then to the end.
func playBack(t *testing.T, what string, w grab.Want, l []turn, n int, e api.Errno, given ...uint32) {
	t.Helper()
	for _, back := range backs(n) {
		play(t, what, w, slices.Concat(l, back), e, given...)
		for k := range back {
			lost := slices.Clone(back[:k+1])
			lost[k].told.Code = api.ErrLost
			play(t, what, w, slices.Concat(l, lost), api.ErrLost)
		}
	}
}

// refusals are all Codes but OK and ErrLost, and ones that are none of api's.
var refusals = []api.Errno{api.ErrArg, api.ErrNil, api.ErrForm, api.ErrMore, api.ErrSum, api.ErrNone, api.ErrThere, api.ErrStale, api.ErrFull, api.ErrState, api.ErrTaken, api.ErrTired, -1, 99}

// notNone are those of them that do not say that there is none.
func notNone() []api.Errno {
	return slices.DeleteFunc(slices.Clone(refusals), func(e api.Errno) bool { return e == api.ErrNone })
}

func TestSome(t *testing.T) {
	for _, x := range []struct {
		n     int
		val   string
		given []uint32
	}{
		{1, blockOf(0), []uint32{base}},
		{2, blockOf(0), []uint32{base, base + 1}},
		{3, blockOf(5), []uint32{base + 5, base + 6, base + 7}},
		{1, blockOf(63), []uint32{base + 63}},
		{2, blockOf(62), []uint32{base + 62, base + 63}},
	} {
		l := slices.Concat(counting(x.n), giving(x.val, with(x.val, x.n)))
		play(t, "some", some(x.n), l, api.OK, x.given...)
	}
}

func TestAll(t *testing.T) {
	var all []uint32
	for k := range uint32(64) {
		all = append(all, base+k)
	}
	play(t, "all", some(64), slices.Concat(counting(64), giving(blockOf(0), with(blockOf(0), 64))), api.OK, all...)
	playBack(t, "all but two", some(64), slices.Concat(counting(64), giving(blockOf(2), with(blockOf(2), 62))), 2, api.OK, all[2:]...)
}

// What was freed last is given last.
func TestInTheBlocksOrder(t *testing.T) {
	b, _ := image.Read(blockOf(64))
	b, _, _ = block.Release(b, []uint32{base + 9, base + 3, base + 60, base + 4})
	play(t, "in order", some(3), slices.Concat(counting(3), giving(put(b), with(put(b), 3))), api.OK, base+9, base+3, base+60)
}

// If there are fewer than are wanted, what was counted too much is taken back ahead of the end.
func TestFewer(t *testing.T) {
	for _, x := range []struct {
		n     int
		val   string
		given []uint32
	}{
		{2, blockOf(63), []uint32{base + 63}},
		{64, blockOf(61), []uint32{base + 61, base + 62, base + 63}},
	} {
		l := slices.Concat(counting(x.n), giving(x.val, with(x.val, len(x.given))))
		playBack(t, "fewer", some(x.n), l, x.n-len(x.given), api.OK, x.given...)
	}
}

func TestFull(t *testing.T) {
	for _, n := range []int{1, 2, 64} {
		l := append(counting(n), turn{get(blkKey), found(blockOf(64), blockRev)})
		playBack(t, "full", some(n), l, n, api.ErrFull)
	}
}

func TestOne(t *testing.T) {
	for _, addr := range []uint32{base + 5, base + 17, base + 63} {
		b, _ := image.Read(blockOf(5))
		b, _ = block.AssignAt(b, addr, a)
		l := slices.Concat(counting(1), giving(blockOf(5), put(b)))
		play(t, "one", one(addr), l, api.OK, addr)
		// How many are wanted does not count then.
		for _, n := range []int{-1 << 63, -1, 0, 1, 7, 65, 1<<63 - 1} {
			play(t, "one", grab.Want{N: n, At: addr, One: true, Attr: a}, l, api.OK, addr)
		}
		// Nor does At, where it is not just one.
		play(t, "some", grab.Want{N: 1, At: addr, Attr: a}, slices.Concat(counting(1), giving(blockOf(5), with(blockOf(5), 1))), api.OK, base+5)
	}
}

func TestOneThatMayNotBe(t *testing.T) {
	l := append(counting(1), turn{get(blkKey), found(blockOf(5), blockRev)})
	for addr, e := range map[uint32]api.Errno{base: api.ErrTaken, base + 4: api.ErrTaken, base - 1: api.ErrArg, base + 64: api.ErrArg, 0: api.ErrArg, 1<<32 - 1: api.ErrArg} {
		playBack(t, "one that may not be", one(addr), l, 1, e)
	}
	full := append(counting(1), turn{get(blkKey), found(blockOf(64), blockRev)})
	playBack(t, "one of a full block", one(base+63), full, 1, api.ErrTaken)
}

func TestOwn(t *testing.T) {
	for _, x := range []struct {
		aff, own string
		has      bool
	}{
		{"n1", "n1", true}, {"n2", "", true}, {"", "", true},
		{"n1", "n2", false}, {"n11", "n1", false}, {"n1", "n11", false}, {"", "n1", false}, {"n1", "no name", false},
	} {
		b, _ := image.Read(blockOf(0))
		b.Aff = x.aff
		w := some(2)
		w.Own = x.own
		if x.has {
			play(t, "its own", w, slices.Concat(counting(2), giving(put(b), with(put(b), 2))), api.OK, base, base+1)
			continue
		}
		playBack(t, "another one's", w, append(counting(2), turn{get(blkKey), found(put(b), blockRev)}), 2, api.ErrTaken)
	}
	// Whose it is comes ahead of what is free.
	for _, own := range []string{"n2", "n1"} {
		w := some(2)
		w.Own = own
		e := map[string]api.Errno{"n1": api.ErrFull, "n2": api.ErrTaken}[own]
		playBack(t, "a full one", w, append(counting(2), turn{get(blkKey), found(blockOf(64), blockRev)}), 2, e)
		w = one(base + 64)
		w.Own = own
		e = map[string]api.Errno{"n1": api.ErrArg, "n2": api.ErrTaken}[own]
		playBack(t, "of another block", w, append(counting(1), turn{get(blkKey), found(blockOf(0), blockRev)}), 1, e)
	}
}

func TestNoBlock(t *testing.T) {
	for _, w := range []grab.Want{some(2), {N: 2, Attr: a, Own: "n2"}} {
		playBack(t, "no block", w, append(counting(2), turn{get(blkKey), refused(api.ErrNone)}), 2, api.ErrNone)
	}
	playBack(t, "no block", one(base+64), append(counting(1), turn{get(blkKey), refused(api.ErrNone)}), 1, api.ErrNone)
}

func TestBlockThatSaysNothing(t *testing.T) {
	whole := blockOf(3)
	for _, val := range []string{"", "B", whole[:len(whole)-1], whole + "\x00", "b" + whole[1:], hand(1)} {
		w := some(2)
		w.Own = "n2"
		playBack(t, "a block that says nothing", w, append(counting(2), turn{get(blkKey), found(val, blockRev)}), 2, api.ErrForm)
		playBack(t, "a block that says nothing", one(base), append(counting(1), turn{get(blkKey), found(val, blockRev)}), 1, api.ErrForm)
	}
}

func TestCounting(t *testing.T) {
	given := giving(blockOf(0), with(blockOf(0), 2))
	for _, x := range []struct {
		told kv.Result
		o    kv.Op
	}{
		{refused(api.ErrNone), create(handKey, alone(2))},
		{found("H\x00\x00", handRev), update(handKey, alone(2), handRev)},
		{found(alone(1), handRev), update(handKey, alone(3), handRev)},
		{found(alone(255), handRev), update(handKey, alone(257), handRev)},
		{found(hand(0), handRev), update(handKey, hand(2), handRev)},
		{found(alone(65533), handRev), update(handKey, alone(65535), handRev)},
	} {
		play(t, "counting", some(2), slices.Concat([]turn{{get(handKey), x.told}, {x.o, written(10)}}, given), api.OK, base, base+1)
	}
	play(t, "counting one", one(base), slices.Concat([]turn{{get(handKey), refused(api.ErrNone)}, {create(handKey, alone(1)), written(10)}}, giving(blockOf(0), with(blockOf(0), 1))), api.OK, base)
}

// What can't be added, or read, is the end: nothing was counted, so that nothing is taken back.
func TestNotCounted(t *testing.T) {
	var l []handle.Count
	for k := range uint32(4096) {
		l = append(l, handle.Count{Block: base + 64 + k*64, N: 1})
	}
	many, _ := handle.Put(handle.Handle{Counts: l})
	for val, e := range map[string]api.Errno{
		alone(65534): api.ErrFull, alone(65535): api.ErrFull, hand(65535): api.ErrFull, many: api.ErrFull,
		"": api.ErrForm, "H": api.ErrForm, "H\x00\x00\x00": api.ErrForm, "H\x00\x01\x0a\x00\x00\x01\x00\x02": api.ErrForm, alone(0): api.ErrForm, blockOf(0): api.ErrForm,
	} {
		play(t, "not counted", some(2), []turn{{get(handKey), found(val, handRev)}}, e)
	}
	play(t, "just counted", one(base), slices.Concat([]turn{{get(handKey), found(alone(65534), handRev)}, {update(handKey, alone(65535), handRev), written(10)}}, giving(blockOf(0), with(blockOf(0), 1))), api.OK, base)
}

func TestRefusedCounting(t *testing.T) {
	given := giving(blockOf(0), with(blockOf(0), 2))
	refuse := func(what string, try []turn) {
		t.Helper()
		for k := range api.Retries {
			play(t, what, some(2), slices.Concat(slices.Repeat(try, k), counting(2), given), api.OK, base, base+1)
		}
		play(t, what, some(2), slices.Repeat(try, api.Retries), api.ErrTired)
	}
	for _, e := range refusals {
		refuse("creating", []turn{{get(handKey), refused(api.ErrNone)}, {create(handKey, alone(2)), refused(e)}})
		refuse("updating", []turn{{get(handKey), found(hand(3), handRev)}, {update(handKey, hand(5), handRev), refused(e)}})
	}
	for _, e := range notNone() {
		// What else is told beside it does not count.
		refuse("reading", []turn{{get(handKey), kv.Result{Code: e, Val: hand(3), Rev: handRev}}})
	}
}

func TestRefusedGiving(t *testing.T) {
	given := giving(blockOf(0), with(blockOf(0), 2))
	refuse := func(what string, try []turn) {
		t.Helper()
		for k := range api.Retries {
			play(t, what, some(2), slices.Concat(counting(2), slices.Repeat(try, k), given), api.OK, base, base+1)
			// How often counting was tried does not count.
			tired := slices.Repeat([]turn{{get(handKey), refused(api.ErrNone)}, {create(handKey, alone(2)), refused(api.ErrThere)}}, k)
			playBack(t, what, some(2), slices.Concat(tired, counting(2), slices.Repeat(try, api.Retries)), 2, api.ErrTired)
		}
	}
	for _, e := range refusals {
		try := giving(blockOf(3), with(blockOf(3), 2))
		try[1].told = refused(e)
		refuse("writing", try)
		// What was given in a try that was refused was not given.
		some := giving(blockOf(63), with(blockOf(63), 1))
		some[1].told = refused(e)
		refuse("writing", some)
	}
	for _, e := range notNone() {
		// What else is told beside it does not count.
		refuse("reading", []turn{{get(blkKey), kv.Result{Code: e, Val: blockOf(0), Rev: blockRev}}})
	}
}

// Of each try what it read is its own.
func TestTryReadsAnew(t *testing.T) {
	l := slices.Concat(
		[]turn{{get(handKey), found(hand(3), handRev)}, {update(handKey, hand(5), handRev), refused(api.ErrStale)}},
		[]turn{{get(handKey), found(hand(7), 8)}, {update(handKey, hand(9), 8), written(9)}},
		[]turn{{get(blkKey), found(blockOf(0), 12)}, {update(blkKey, with(blockOf(0), 2), 12), refused(api.ErrStale)}},
		[]turn{{get(blkKey), found(blockOf(63), 13)}, {update(blkKey, with(blockOf(63), 1), 13), written(14)}},
		[]turn{{get(handKey), found(hand(9), 15)}, {update(handKey, hand(8), 15), written(16)}},
	)
	play(t, "anew", some(2), l, api.OK, base+63)
	// What was given in a try that was refused, and is taken meanwhile, is not told.
	l = slices.Concat(counting(2),
		[]turn{{get(blkKey), found(blockOf(0), 12)}, {update(blkKey, with(blockOf(0), 2), 12), refused(api.ErrStale)}},
		[]turn{{get(blkKey), found(blockOf(64), 13)}, {get(handKey), found(hand(5), 15)}, {update(handKey, hand(3), 15), written(16)}})
	play(t, "taken meanwhile", some(2), l, api.ErrFull)
}

func TestLost(t *testing.T) {
	for _, whole := range [][]turn{
		slices.Concat(counting(2), giving(blockOf(0), with(blockOf(0), 2))),
		slices.Concat([]turn{{get(handKey), refused(api.ErrNone)}, {create(handKey, alone(2)), written(10)}}, giving(blockOf(0), with(blockOf(0), 2))),
	} {
		for k := range whole {
			l := slices.Clone(whole[:k+1])
			// What else is told beside it does not count.
			l[k].told.Code = api.ErrLost
			play(t, "lost", some(2), l, api.ErrLost)
		}
	}
}

func TestWantsThatMayNotBe(t *testing.T) {
	long := strings.Repeat("n", api.MaxText+1)
	var l []grab.Want
	for _, n := range []int{-1 << 63, -1, 0, 65, 66, 1<<63 - 1} {
		l = append(l, some(n))
	}
	for _, name := range []string{"", "a/b", "a b", "é", "\xff", long} {
		for _, w := range []grab.Want{some(2), one(base)} {
			h, n := w, w
			h.Attr.Handle, n.Attr.Node = name, name
			l = append(l, h, n)
		}
	}
	for _, w := range l {
		for _, p := range []*mach.Proc{nil, mach.New()} {
			var ends []ending
			ahead := get("ahead")
			p.Ask(ahead, nil)
			grab.Go(p, base, w, func(l []uint32, e api.Errno) { ends = append(ends, ending{l, e}) })
			if !slices.EqualFunc(ends, []ending{{nil, api.ErrArg}}, ending.is) {
				t.Errorf("%+v: ended %v", w, ends)
			}
			if o, asks := p.Op(); p != nil && (!asks || o != ahead) {
				t.Errorf("%+v: asks %#v, %v", w, o, asks)
			}
			grab.Go(p, base, w, nil)
		}
	}
	longest := strings.Repeat("n", api.MaxText)
	for _, n := range []int{1, 2, 63, 64} {
		p := mach.New()
		grab.Go(p, base, grab.Want{N: n, Attr: block.Attr{Handle: longest, Node: longest}}, nil)
		if o, asks := p.Op(); !asks || o != get("handle/"+longest) {
			t.Errorf("of %d: asks %#v, %v", n, o, asks)
		}
	}
}

func TestAddresses(t *testing.T) {
	for addr, net := range map[uint32]string{base: "10.0.0.0-26", base + 63: "10.0.0.0-26", base + 64: "10.0.0.64-26", 0: "0.0.0.0-26", 1<<32 - 1: "255.255.255.192-26"} {
		b, _ := block.New(addr, "")
		s, p := kv.New(), mach.New()
		s.Do(create("block/"+net, put(b)))
		var ends []ending
		grab.Go(p, addr, some(1), func(l []uint32, e api.Errno) { ends = append(ends, ending{l, e}) })
		h, _ := handle.Add(handle.Handle{}, addr, 1)
		val, _ := handle.Put(h)
		if !mach.Run(p, s.Do, 4) || !slices.EqualFunc(ends, []ending{{[]uint32{b.Addr}, api.OK}}, ending.is) || s.Do(get(handKey)).Val != val {
			t.Errorf("of %d: ended %v: %#v", addr, ends, s.All())
		}
	}
}

func TestNoProcedure(t *testing.T) {
	grab.Go(nil, base, some(2), func(l []uint32, e api.Errno) { t.Errorf("without a procedure it ended: %v, %d", l, e) })
	grab.Go(nil, base, one(base), nil)
	grab.Back(nil, "h1", base, 2, func(e api.Errno) { t.Errorf("without a procedure it ended: %d", e) })
	grab.Back(nil, "h1", base, 2, nil)
}

// Nobody needs to be called at the end.
func TestNoThen(t *testing.T) {
	for _, told := range []kv.Result{refused(api.ErrNone), refused(api.ErrLost), found("", 1), refused(api.ErrStale), found(alone(2), 1), written(3)} {
		p := mach.New()
		grab.Go(p, base, some(2), nil)
		if !mach.Run(p, func(kv.Op) kv.Result { return told }, grab.Bound()) {
			t.Errorf("told %#v giving goes on", told)
		}
		grab.Back(p, "h1", base, 2, nil)
		if !mach.Run(p, func(kv.Op) kv.Result { return told }, grab.BackBound()) {
			t.Errorf("told %#v taking back goes on", told)
		}
	}
	s, p := kv.New(), mach.New()
	s.Do(create(blkKey, blockOf(63)))
	grab.Go(p, base, some(2), nil)
	if b, _ := image.Read(s.Do(get(blkKey)).Val); !mach.Run(p, s.Do, 6) || s.Do(get(handKey)).Val != alone(1) || len(b.Free) != 1 {
		t.Errorf("nobody is called: %#v", s.All())
	}
}

// At the end the procedure asks nothing: whoever is called may ask by it anew, and write into what was told.
func TestOneBehindAnother(t *testing.T) {
	s, p := kv.New(), mach.New()
	s.Do(create(blkKey, blockOf(60)))
	var ends []ending
	var on func(l []uint32, e api.Errno)
	on = func(l []uint32, e api.Errno) {
		ends = append(ends, ending{slices.Clone(l), e})
		clear(l)
		if len(ends) < 4 {
			grab.Go(p, base, some(3), on)
		}
	}
	grab.Go(p, base, one(base+61), on)
	want := []ending{{[]uint32{base + 61}, api.OK}, {[]uint32{base + 60, base + 62, base + 63}, api.OK}, {nil, api.ErrFull}, {nil, api.ErrFull}}
	if !mach.Run(p, s.Do, 99) || !slices.EqualFunc(ends, want, ending.is) || s.Do(get(handKey)).Val != alone(4) || p.Steps() != 4+4+5+5 {
		t.Errorf("ended %v by %d steps: %#v", ends, p.Steps(), s.All())
	}
}

func TestBounds(t *testing.T) {
	if grab.Bound() != 36 || grab.BackBound() != 12 {
		t.Errorf("the bounds are %d, %d", grab.Bound(), grab.BackBound())
	}
	// The longest way there is: each try is refused, but the last one of counting, and taking back is, too.
	p := mach.New()
	var ends []ending
	grab.Go(p, base+40, some(2), func(l []uint32, e api.Errno) { ends = append(ends, ending{l, e}) })
	count := counting(2)
	count[1].told = refused(api.ErrStale)
	give := giving(blockOf(0), with(blockOf(0), 2))
	give[1].told = refused(api.ErrStale)
	l := slices.Concat(slices.Repeat(count, api.Retries-1), counting(2), slices.Repeat(give, api.Retries), backs(2)[4])
	playProc(t, "the longest way", p, &ends, l, ending{nil, api.ErrTired})
	if p.Steps() != grab.Bound() {
		t.Errorf("the longest way takes %d steps", p.Steps())
	}
}
