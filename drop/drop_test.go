package drop_test

import (
	"maps"
	"math"
	"slices"
	"strconv"
	"strings"
	"testing"

	"virgate/api"
	"virgate/block"
	"virgate/drop"
	"virgate/handle"
	"virgate/image"
	"virgate/kv"
	"virgate/mach"
)

// base is the first address of the block of which addresses are freed; its key is written by hand.
const (
	base   = 10 << 24
	blkKey = "block/10.0.0.0-26"
)

// Revisions that tell apart what they are of.
const (
	blockRev = 7
	freeRev  = 11
	handRev  = 30
)

// mixed tells the bytes of the block at base that is aff's, and of which the first n addresses are given, in turn, under h2 for n1, h1 for n1, h10 for n2, h1 for n2.
func mixed(aff string, n int) string {
	attrs := []block.Attr{{Handle: "h2", Node: "n1"}, {Handle: "h1", Node: "n1"}, {Handle: "h10", Node: "n2"}, {Handle: "h1", Node: "n2"}}
	b, _ := block.New(base, aff)
	for i := range n {
		b, _, _ = block.Assign(b, 1, attrs[i%4])
	}
	return put(b)
}

func put(b block.Block) string {
	s, e := image.Put(b)
	if e != api.OK {
		panic("a block that is not right")
	}
	return s
}

// less tells the bytes of the block that val says once these of it are freed.
func less(val string, l ...uint32) string {
	b, _ := image.Read(val)
	b, _, _ = block.Release(b, l)
	return put(b)
}

// at tells addresses of the block at base.
func at(slots ...uint32) []uint32 {
	var l []uint32
	for _, i := range slots {
		l = append(l, base+i)
	}
	return l
}

// hand tells the bytes of a handle that has n in the block at base, and some in the one behind it.
func hand(n int) string {
	h, _ := handle.Set(handle.Handle{Counts: []handle.Count{{Block: base + 64, N: 3}}}, base, n)
	val, _ := handle.Put(h)
	return val
}

// only tells the bytes of a handle that has n in the block at base, and nothing else, written by hand.
func only(n int) string {
	return "H\x00\x01\x0a\x00\x00\x00" + string([]byte{byte(n >> 8), byte(n)})
}

func get(key string) kv.Op { return kv.Op{Kind: kv.Get, Key: key} }

func update(key, val string, rev int64) kv.Op {
	return kv.Op{Kind: kv.Update, Key: key, Val: val, Rev: rev}
}

func remove(key string, rev int64) kv.Op { return kv.Op{Kind: kv.Delete, Key: key, Rev: rev} }

func found(val string, rev int64) kv.Result { return kv.Result{Val: val, Rev: rev} }

func written(rev int64) kv.Result { return kv.Result{Rev: rev} }

func refused(e api.Errno) kv.Result { return kv.Result{Code: e} }

// turn is what has to be asked, and what is told then.
type turn struct {
	asked kv.Op
	told  kv.Result
}

// ending is what has to be told at the end.
type ending struct {
	l []uint32
	e api.Errno
}

func (x ending) is(y ending) bool { return x.e == y.e && slices.Equal(x.l, y.l) }

// play holds what dropping w of the block at base asks, and how it ends; it tells how many steps it took.
func play(t *testing.T, what string, w drop.What, l []turn, e api.Errno, freed ...uint32) int {
	t.Helper()
	var ends []ending
	p, want := mach.New(), ending{freed, e}
	drop.Go(p, base+40, w, func(l []uint32, e api.Errno) { ends = append(ends, ending{l, e}) })
	for k, x := range l {
		o, asks := p.Op()
		if !asks || o != x.asked || len(ends) != 0 {
			t.Errorf("%s: asked %#v, %v at the step %d, ended %v; want %#v", what, o, asks, k, ends, x.asked)
			return k
		}
		p.Feed(x.told)
	}
	if o, asks := p.Op(); asks || !slices.EqualFunc(ends, []ending{want}, ending.is) {
		t.Errorf("%s: ended %v, asks %#v, %v; want %v", what, ends, o, asks, want)
	}
	return p.Steps()
}

// freeing is how val is found, and written without these.
func freeing(val string, l ...uint32) []turn {
	return []turn{{get(blkKey), found(val, blockRev)}, {update(blkKey, less(val, l...), blockRev), written(freeRev)}}
}

// back is how n of the handle id are taken back.
func back(id string, n int) []turn {
	key := "handle/" + id
	return []turn{{get(key), found(hand(70), handRev)}, {update(key, hand(70-n), handRev), written(31)}}
}

// otherBacks are other ways for taking back n to end, all of which count as done.
func otherBacks(id string, n int) [][]turn {
	key := "handle/" + id
	refusal := back(id, n)
	refusal[1].told = refused(api.ErrStale)
	return [][]turn{
		{{get(key), refused(api.ErrNone)}},
		{{get(key), found("", handRev)}},
		{{get(key), found(only(n), handRev)}, {remove(key, handRev), written(31)}},
		append(slices.Clone(refusal), turn{get(key), found(only(n), 32)}, turn{remove(key, 32), written(33)}),
		slices.Repeat(refusal, api.Retries),
	}
}

// playLost holds that wherever of l the disk goes away, that is the end.
func playLost(t *testing.T, what string, w drop.What, l []turn) {
	t.Helper()
	for k := range l {
		lost := slices.Clone(l[:k+1])
		// What else is told beside it does not count.
		lost[k].told.Code = api.ErrLost
		play(t, what+", lost", w, lost, api.ErrLost)
	}
}

// refusals are all Codes but OK and ErrLost, and ones that are none of api's.
var refusals = []api.Errno{api.ErrArg, api.ErrNil, api.ErrForm, api.ErrMore, api.ErrSum, api.ErrNone, api.ErrThere, api.ErrStale, api.ErrFull, api.ErrState, api.ErrTaken, api.ErrTired, -1, 99}

// notNone are those of them that do not say that there is none.
func notNone() []api.Errno {
	return slices.DeleteFunc(slices.Clone(refusals), func(e api.Errno) bool { return e == api.ErrNone })
}

func listed(l ...uint32) drop.What { return drop.What{Kind: drop.List, L: l} }

func ofHandle(id string) drop.What { return drop.What{Kind: drop.Handle, ID: id} }

func ofNodes(l ...string) drop.What { return drop.What{Kind: drop.Nodes, Nodes: l} }

// wants are of the block mixed(.., 9), with what is freed, in order, and how many each handle has of that.
func wants() []struct {
	w     drop.What
	freed []uint32
	had   map[string]int
} {
	return []struct {
		w     drop.What
		freed []uint32
		had   map[string]int
	}{
		{listed(at(3)...), at(3), map[string]int{"h1": 1}},
		{listed(at(4, 3)...), at(4, 3), map[string]int{"h1": 1, "h2": 1}},
		{listed(at(8, 1, 2, 1, 8)...), at(8, 1, 2), map[string]int{"h1": 1, "h2": 1, "h10": 1}},
		{listed(base+9, base-1, base+7, base+64, 0, base+5, 1<<32-1), at(7, 5), map[string]int{"h1": 2}},
		{listed(at(8, 7, 6, 5, 4, 3, 2, 1, 0)...), at(8, 7, 6, 5, 4, 3, 2, 1, 0), map[string]int{"h1": 4, "h2": 3, "h10": 2}},
		{ofHandle("h1"), at(1, 3, 5, 7), map[string]int{"h1": 4}},
		{ofHandle("h2"), at(0, 4, 8), map[string]int{"h2": 3}},
		{ofHandle("h10"), at(2, 6), map[string]int{"h10": 2}},
		{ofNodes("n1"), at(0, 1, 4, 5, 8), map[string]int{"h1": 2, "h2": 3}},
		{ofNodes("n2"), at(2, 3, 6, 7), map[string]int{"h1": 2, "h10": 2}},
		{ofNodes("n1", "n2"), at(0, 1, 4, 5, 8, 2, 3, 6, 7), map[string]int{"h1": 4, "h2": 3, "h10": 2}},
		{ofNodes("n2", "", "n3", "n2", "n1", "a/b", "n1"), at(2, 3, 6, 7, 0, 1, 4, 5, 8), map[string]int{"h1": 4, "h2": 3, "h10": 2}},
		{ofNodes("n", "n10", "n2", "N1"), at(2, 3, 6, 7), map[string]int{"h1": 2, "h10": 2}},
	}
}

// inOrder tells how all that handles had is taken back, by their names.
func inOrder(had map[string]int) []turn {
	var l []turn
	for _, id := range slices.Sorted(maps.Keys(had)) {
		l = append(l, back(id, had[id])...)
	}
	return l
}

// Of a block that is somebody's: it stays, even if nothing of it is given any more.
func TestOfSomebodysBlock(t *testing.T) {
	for _, x := range wants() {
		l := slices.Concat(freeing(mixed("n7", 9), x.freed...), inOrder(x.had))
		play(t, "somebody's", x.w, l, api.OK, x.freed...)
		playLost(t, "somebody's", x.w, l)
	}
}

// Of a block that is nobody's: once nothing of it is given any more, it goes, ahead of taking back.
func TestOfNobodysBlock(t *testing.T) {
	for _, x := range wants() {
		l := freeing(mixed("", 9), x.freed...)
		if len(x.freed) == 9 {
			l = append(l, turn{remove(blkKey, freeRev), written(12)})
		}
		l = append(l, inOrder(x.had)...)
		play(t, "nobody's", x.w, l, api.OK, x.freed...)
		playLost(t, "nobody's", x.w, l)
	}
}

// A block that can't be deleted stays; all else goes on as if it was.
func TestRefusedDelete(t *testing.T) {
	for _, e := range refusals {
		l := slices.Concat(freeing(mixed("", 2), at(1, 0)...), []turn{{remove(blkKey, freeRev), refused(e)}}, back("h1", 1), back("h2", 1))
		play(t, "refused Delete", listed(at(1, 0)...), l, api.OK, at(1, 0)...)
		playLost(t, "refused Delete", listed(at(1, 0)...), l)
	}
}

// Of the kind alone it hangs what is meant.
func TestKindAlone(t *testing.T) {
	all := drop.What{L: at(0, 2), ID: "h2", Nodes: []string{"n2"}}
	for kind, freed := range map[int][]uint32{drop.List: at(0, 2), drop.Handle: at(0, 4, 8), drop.Nodes: at(2, 3, 6, 7)} {
		w, n := all, map[string]int{}
		w.Kind = kind
		for _, addr := range freed {
			n[[]string{"h2", "h1", "h10", "h1"}[(addr-base)%4]]++
		}
		play(t, "kind "+strconv.Itoa(kind), w, slices.Concat(freeing(mixed("n1", 9), freed...), inOrder(n)), api.OK, freed...)
	}
	for _, kind := range []int{0, 4, -1, math.MinInt, math.MaxInt} {
		w := all
		w.Kind = kind
		play(t, "kind "+strconv.Itoa(kind), w, []turn{{get(blkKey), found(mixed("n1", 9), blockRev)}}, api.OK)
	}
}

func TestNothingMeant(t *testing.T) {
	for _, w := range []drop.What{
		{}, listed(), listed(base+9, base+63), listed(base-1, base+64, 0, 1<<32-1), ofHandle(""), ofHandle("h"), ofHandle("h3"), ofHandle("H1"), ofHandle("a/b"), ofHandle("n1"),
		ofNodes(), ofNodes(""), ofNodes("n", "n3", "n11"), ofNodes("h1"), ofNodes("\xff"),
	} {
		for _, val := range []string{mixed("n1", 9), mixed("", 9)} {
			play(t, "nothing that is meant", w, []turn{{get(blkKey), found(val, blockRev)}}, api.OK)
		}
	}
	for _, x := range wants() {
		// One of which nothing was given ahead is left, nobody's too.
		for _, val := range []string{mixed("n1", 0), mixed("", 0)} {
			play(t, "nothing given", x.w, []turn{{get(blkKey), found(val, blockRev)}}, api.OK)
		}
		play(t, "no block", x.w, []turn{{get(blkKey), refused(api.ErrNone)}}, api.OK)
		// What else is told beside it does not count.
		play(t, "no block", x.w, []turn{{get(blkKey), kv.Result{Code: api.ErrNone, Val: mixed("n1", 9), Rev: blockRev}}}, api.OK)
	}
}

func TestBlockThatSaysNothing(t *testing.T) {
	whole := mixed("", 9)
	for _, val := range []string{"", "B", whole[:len(whole)-1], whole + "\x00", "b" + whole[1:], hand(1), "A\x01"} {
		for _, w := range []drop.What{listed(at(0)...), ofHandle("h1"), ofNodes("n1"), {}} {
			play(t, "a block that says nothing", w, []turn{{get(blkKey), found(val, blockRev)}}, api.ErrForm)
		}
	}
}

func TestRefused(t *testing.T) {
	whole := slices.Concat(freeing(mixed("n1", 9), at(1, 3, 5, 7)...), back("h1", 4))
	refuse := func(what string, try []turn) {
		t.Helper()
		for k := range api.Retries {
			tries := slices.Repeat(try, k)
			play(t, what, ofHandle("h1"), slices.Concat(tries, whole), api.OK, at(1, 3, 5, 7)...)
			play(t, what, ofHandle("h1"), append(tries, turn{get(blkKey), refused(api.ErrNone)}), api.OK)
			play(t, what, ofHandle("h1"), append(tries, turn{get(blkKey), found("", blockRev)}), api.ErrForm)
		}
		play(t, what, ofHandle("h1"), slices.Repeat(try, api.Retries), api.ErrTired)
	}
	for _, e := range refusals {
		// Neither is what was freed in such a try deleted, or taken back.
		for _, val := range []string{mixed("n2", 2), mixed("", 2)} {
			try := freeing(val, base+1)
			try[1].told.Code = e
			refuse("writing", try)
		}
		try := freeing(less(mixed("", 2), base), base+1)
		try[1].told.Code = e
		refuse("writing the last one", try)
	}
	for _, e := range notNone() {
		// What else is told beside it does not count.
		refuse("reading", []turn{{get(blkKey), kv.Result{Code: e, Val: mixed("", 2), Rev: blockRev}}})
	}
}

// Of each try what it read is its own: what was freed meanwhile by somebody else is not told, nor taken back.
func TestTryReadsAnew(t *testing.T) {
	w := ofNodes("n1")
	l := slices.Concat(
		[]turn{{get(blkKey), found(mixed("n1", 9), 12)}, {update(blkKey, less(mixed("n1", 9), at(0, 1, 4, 5, 8)...), 12), refused(api.ErrStale)}},
		[]turn{{get(blkKey), found(mixed("", 2), 13)}, {update(blkKey, less(mixed("", 2), at(0, 1)...), 13), refused(api.ErrStale)}},
		[]turn{{get(blkKey), found(less(mixed("n1", 6), base+1, base+5), 14)}, {update(blkKey, less(mixed("n1", 6), base+1, base+5, base, base+4), 14), written(15)}},
		back("h2", 2),
	)
	play(t, "anew", w, l, api.OK, at(0, 4)...)
	l = append(l[:4:4], turn{get(blkKey), found(less(mixed("", 6), at(0, 1, 4, 5)...), 14)})
	play(t, "freed meanwhile", w, l, api.OK)
}

// How taking back one handle ends is nothing to the next one, nor to what is told.
func TestBacks(t *testing.T) {
	w := ofNodes("n1", "n2")
	freed := at(0, 1, 4, 5, 8, 2, 3, 6, 7)
	start := freeing(mixed("n1", 9), freed...)
	ids, had := []string{"h1", "h10", "h2"}, map[string]int{"h1": 4, "h10": 2, "h2": 3}
	for k, id := range ids {
		for _, other := range otherBacks(id, had[id]) {
			l := slices.Clone(start)
			for j, id := range ids {
				if j == k {
					l = append(l, other...)
				} else {
					l = append(l, back(id, had[id])...)
				}
			}
			play(t, "taking back "+id, w, l, api.OK, freed...)
			playLost(t, "taking back "+id, w, l)
		}
	}
}

// A handle that counts fewer than were given, or none there, keeps what it has elsewhere.
func TestHandlesThatCountFewer(t *testing.T) {
	for n := range 4 {
		l := append(freeing(mixed("n1", 9), at(1, 3, 5, 7)...), turn{get("handle/h1"), found(hand(n), handRev)}, turn{update("handle/h1", hand(0), handRev), written(31)})
		play(t, "fewer", ofHandle("h1"), l, api.OK, at(1, 3, 5, 7)...)
	}
}

// All 64, of as many handles, in whatever order they are named: the handles are taken back by their names.
func TestManyHandles(t *testing.T) {
	b, _ := block.New(base, "")
	var all []uint32
	had := map[string]int{}
	for i := range uint32(64) {
		id := "h" + strconv.Itoa(int(i))
		b, _ = block.AssignAt(b, base+i, block.Attr{Handle: id, Node: "n" + strconv.Itoa(int(i%3))})
		all = append(all, base+i)
		had[id]++
	}
	slices.Reverse(all)
	l := slices.Concat(freeing(put(b), all...), []turn{{remove(blkKey, freeRev), written(12)}}, inOrder(had))
	play(t, "many handles", listed(all...), l, api.OK, all...)
}

func TestOfWhichBlock(t *testing.T) {
	for addr, net := range map[uint32]string{base: "10.0.0.0-26", base + 63: "10.0.0.0-26", base + 64: "10.0.0.64-26", 0: "0.0.0.0-26", 1<<32 - 1: "255.255.255.192-26"} {
		b, _ := block.New(addr, "")
		b, _, _ = block.Assign(b, 2, block.Attr{Handle: "h1", Node: "n1"})
		s, p := kv.New(), mach.New()
		s.Do(kv.Op{Kind: kv.Create, Key: "block/" + net, Val: put(b)})
		h, _ := handle.Add(handle.Handle{Counts: []handle.Count{{Block: 64, N: 1}}}, addr, 2)
		val, _ := handle.Put(h)
		s.Do(kv.Op{Kind: kv.Create, Key: "handle/h1", Val: val})
		var ends []ending
		drop.Go(p, addr, ofHandle("h1"), func(l []uint32, e api.Errno) { ends = append(ends, ending{l, e}) })
		if !mach.Run(p, s.Do, 5) || !slices.EqualFunc(ends, []ending{{[]uint32{b.Addr, b.Addr + 1}, api.OK}}, ending.is) || s.Len() != 1 || s.Do(get("handle/h1")).Val != "H\x00\x01\x00\x00\x00\x40\x00\x01" {
			t.Errorf("of %d: ended %v: %#v", addr, ends, s.All())
		}
	}
}

// What is handed in is not changed, and not kept; what is told is the caller's own.
func TestLists(t *testing.T) {
	for _, x := range wants() {
		w := drop.What{Kind: x.w.Kind, ID: x.w.ID, L: slices.Clone(x.w.L), Nodes: slices.Clone(x.w.Nodes)}
		s, p := kv.New(), mach.New()
		s.Do(kv.Op{Kind: kv.Create, Key: blkKey, Val: mixed("n1", 9)})
		var told []uint32
		drop.Go(p, base, w, func(l []uint32, e api.Errno) { told = l })
		if !slices.Equal(w.L, x.w.L) || !slices.Equal(w.Nodes, x.w.Nodes) {
			t.Errorf("%+v: changed to %+v", x.w, w)
		}
		for k := range w.L {
			w.L[k] = base + 2
		}
		for k := range w.Nodes {
			w.Nodes[k] = "n9"
		}
		if !mach.Run(p, s.Do, 99) || !slices.Equal(told, x.freed) {
			t.Errorf("%+v: freed %v, once the lists were written into", x.w, told)
		}
		if slices.Contains(w.L, base) || slices.Contains(w.Nodes, "n1") {
			t.Errorf("%+v: the lists are %+v", x.w, w)
		}
	}
}

func TestNoProcedure(t *testing.T) {
	for _, x := range wants() {
		drop.Go(nil, base, x.w, func(l []uint32, e api.Errno) { t.Errorf("without a procedure it ended: %v, %d", l, e) })
		drop.Go(nil, base, x.w, nil)
	}
}

// Nobody needs to be called at the end.
func TestNoThen(t *testing.T) {
	for _, told := range []kv.Result{refused(api.ErrNone), refused(api.ErrLost), found("", 1), refused(api.ErrStale), found(mixed("", 9), 1), found(mixed("n1", 0), 1), written(3)} {
		p := mach.New()
		drop.Go(p, base, ofNodes("n1", "n2"), nil)
		if !mach.Run(p, func(kv.Op) kv.Result { return told }, drop.Bound(3)) {
			t.Errorf("told %#v it goes on", told)
		}
	}
	s, p := kv.New(), mach.New()
	s.Do(kv.Op{Kind: kv.Create, Key: blkKey, Val: mixed("", 1)})
	s.Do(kv.Op{Kind: kv.Create, Key: "handle/h2", Val: only(1)})
	drop.Go(p, base, listed(base), nil)
	if !mach.Run(p, s.Do, 5) || s.Len() != 0 {
		t.Errorf("nobody is called: %#v", s.All())
	}
}

// At the end the procedure asks nothing: whoever is called may ask by it anew, and write into what was told.
func TestOneBehindAnother(t *testing.T) {
	s, p := kv.New(), mach.New()
	s.Do(kv.Op{Kind: kv.Create, Key: blkKey, Val: mixed("", 9)})
	for id, n := range map[string]int{"h1": 4, "h2": 3, "h10": 2} {
		s.Do(kv.Op{Kind: kv.Create, Key: "handle/" + id, Val: only(n)})
	}
	l := []drop.What{listed(at(8, 1)...), ofHandle("h1"), ofHandle("h1"), ofNodes("n2"), ofNodes("n1"), ofNodes("n1")}
	var ends []ending
	var on func(l []uint32, e api.Errno)
	on = func(freed []uint32, e api.Errno) {
		ends = append(ends, ending{slices.Clone(freed), e})
		clear(freed)
		if len(ends) < len(l) {
			drop.Go(p, base, l[len(ends)], on)
		}
	}
	drop.Go(p, base, l[0], on)
	want := []ending{{at(8, 1), api.OK}, {at(3, 5, 7), api.OK}, {nil, api.OK}, {at(2, 6), api.OK}, {at(0, 4), api.OK}, {nil, api.OK}}
	if !mach.Run(p, s.Do, 99) || !slices.EqualFunc(ends, want, ending.is) || s.Len() != 0 || p.Steps() != 6+4+1+4+5+1 {
		t.Errorf("ended %v by %d steps: %#v", ends, p.Steps(), s.All())
	}
}

// What it asked ahead is not asked any more.
func TestInPlaceOfAnother(t *testing.T) {
	p := mach.New()
	p.Ask(get("ahead"), func(kv.Result) { t.Error("what was asked ahead goes on") })
	drop.Go(p, base, listed(base), nil)
	if o, asks := p.Op(); !asks || o != get(blkKey) {
		t.Errorf("asks %#v, %v", o, asks)
	}
}

func TestBound(t *testing.T) {
	for handles, want := range map[int]int{math.MinInt: 13, -1: 13, 0: 13, 1: 25, 2: 37, 63: 769, 64: 781, 65: 781, math.MaxInt: 781} {
		if n := drop.Bound(handles); n != want {
			t.Errorf("Bound of %d: %d; want %d", handles, n, want)
		}
	}
	// The longest way there is: each try but the last one is refused, the block is deleted, and taking back tires.
	w := ofNodes("n2", "n1")
	freed := at(2, 3, 6, 7, 0, 1, 4, 5, 8)
	try := freeing(mixed("", 9), freed...)
	try[1].told = refused(api.ErrStale)
	l := slices.Concat(slices.Repeat(try, api.Retries-1), freeing(mixed("", 9), freed...), []turn{{remove(blkKey, freeRev), written(12)}})
	for _, id := range []string{"h1", "h10", "h2"} {
		l = append(l, otherBacks(id, map[string]int{"h1": 4, "h10": 2, "h2": 3}[id])[4]...)
	}
	if n := play(t, "the longest way", w, l, api.OK, freed...); n != drop.Bound(3) {
		t.Errorf("the longest way takes %d steps", n)
	}
}

// The example: all of a handle, two addresses.
func TestExample(t *testing.T) {
	b, _ := block.New(base, "n1")
	b, _, _ = block.Assign(b, 2, block.Attr{Handle: "h1", Node: "n1"})
	play(t, "the example", ofHandle("h1"), []turn{
		{get(blkKey), found(put(b), 1)}, {update(blkKey, less(put(b), at(0, 1)...), 1), written(3)},
		{get("handle/h1"), found(only(2), 2)}, {remove("handle/h1", 2), written(4)},
	}, api.OK, at(0, 1)...)
}

// Names of the greatest length are as good as others.
func TestLongNames(t *testing.T) {
	id, node := strings.Repeat("h", api.MaxText), strings.Repeat("n", api.MaxText)
	b, _ := block.New(base, node)
	b, _, _ = block.Assign(b, 3, block.Attr{Handle: id, Node: node})
	l := slices.Concat(freeing(put(b), at(0, 1, 2)...), back(id, 3))
	for _, w := range []drop.What{ofHandle(id), ofNodes(node), listed(at(0, 1, 2)...)} {
		play(t, "long names", w, l, api.OK, at(0, 1, 2)...)
	}
}
