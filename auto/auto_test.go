package auto_test

import (
	"hash/fnv"
	"maps"
	"math"
	"slices"
	"strings"
	"testing"

	"virgate/api"
	"virgate/auto"
	"virgate/block"
	"virgate/handle"
	"virgate/image"
	"virgate/kv"
	"virgate/mach"
)

// base is the first address of the pool that most states have.
const base = 10 << 24

// Records, as bytes written by hand.
const (
	pending    = "A\x01"
	confirmed  = "A\x02"
	leaving    = "A\x03"
	present    = "N\x00"
	gone       = "N\x01"
	openPool   = "P\x0a\x00\x00\x00\x18\x01"
	closedPool = "P\x0a\x00\x00\x00\x18\x00"
	openNext   = "P\x0a\x00\x01\x00\x19\x01" // of two blocks
	closedNext = "P\x0a\x00\x01\x00\x19\x00"
)

// Keys of these pools, and of n1.
const (
	poolKey = "pool/10.0.0.0-24"
	nextKey = "pool/10.0.1.0-25"
	nodeKey = "node/n1"
)

var a = block.Attr{Handle: "h1", Node: "n1"}

// The blocks of the pool 10.0.0.0/24 in the order in which they are listed, that of their keys' bytes: as they stand in these, and their first addresses.
var (
	nets   = []string{"10.0.0.0-26", "10.0.0.128-26", "10.0.0.192-26", "10.0.0.64-26"}
	firsts = []uint32{base, base + 128, base + 192, base + 64}
)

// records are what there is, by the keys.
type records map[string]string

// state tells a state of the pool, of n1, and of all that m has beside or in place of them; what m has as - is not there.
func state(m records) *kv.State {
	all := records{poolKey: openPool, nodeKey: present}
	for key, val := range m {
		all[key] = val
	}
	s := kv.New()
	for _, key := range slices.Sorted(maps.Keys(all)) {
		if all[key] != "-" {
			s.Do(kv.Op{Kind: kv.Create, Key: key, Val: all[key]})
		}
	}
	return s
}

// given tells the bytes of the block of addr that is aff's, and of which n addresses are given to others.
func given(addr uint32, aff string, n int) string {
	b, _ := block.New(addr, aff)
	b, _, _ = block.Assign(b, n, block.Attr{Handle: "h9", Node: "n9"})
	val, _ := image.Put(b)
	return val
}

// ending is what somebody ended with.
type ending struct {
	l []uint32
	e api.Errno
}

func (x ending) is(y ending) bool { return x.e == y.e && slices.Equal(x.l, y.l) }

// run gives w by what do tells, and tells how that ended, and what was asked.
func run(t *testing.T, w auto.Want, do func(o kv.Op) kv.Result) (ending, []kv.Op) {
	t.Helper()
	var ends []ending
	var asked []kv.Op
	p := mach.New()
	auto.Go(p, w, func(l []uint32, e api.Errno) { ends = append(ends, ending{l, e}) })
	done := mach.Run(p, func(o kv.Op) kv.Result {
		if len(ends) != 0 {
			t.Errorf("%+v: ended %v, and asks %#v", w, ends, o)
		}
		asked = append(asked, o)
		return do(o)
	}, 100000)
	if !done || len(ends) != 1 {
		t.Fatalf("%+v: ended %v, %v", w, done, ends)
	}
	return ends[0], asked
}

// wantEnd holds how w is given of s, and tells what was asked.
func wantEnd(t *testing.T, what string, s *kv.State, w auto.Want, e api.Errno, l ...uint32) []kv.Op {
	t.Helper()
	got, asked := run(t, w, s.Do)
	if !got.is(ending{l, e}) {
		t.Errorf("%s: %+v ended with %v; want %v, %d", what, w, got, l, e)
	}
	return asked
}

// spelt tells what was asked, as text.
func spelt(l []kv.Op) []string {
	var said []string
	for _, o := range l {
		said = append(said, []string{"", "get ", "list ", "create ", "update ", "delete "}[o.Kind]+o.Key)
	}
	return said
}

// wantAsked holds what was asked, part by part.
func wantAsked(t *testing.T, what string, l []kv.Op, parts ...[]string) {
	t.Helper()
	if got, want := spelt(l), slices.Concat(parts...); !slices.Equal(got, want) {
		t.Errorf("%s: asked %q; want %q", what, got, want)
	}
}

// What is asked of a state in which all goes well: at the beginning, ahead of claiming, to claim a block that is not there, or is, and to grab for the first time, or later, with or without what is taken back.
var (
	start      = []string{"get node/n1", "list pool/", "list aff/n1/"}
	listBlocks = []string{"list block/"}
)

func claimNew(net string) []string {
	return []string{"list pool/", "get node/n1", "get aff/n1/" + net, "create aff/n1/" + net, "get block/" + net, "create block/" + net, "update aff/n1/" + net}
}

// claimOld claims one that is there; by does what there has to be done to the affinity.
func claimOld(net, by string) []string {
	return []string{"list pool/", "get node/n1", "get aff/n1/" + net, by + " aff/n1/" + net, "get block/" + net, "update block/" + net, "update aff/n1/" + net}
}

func grabFirst(net string) []string {
	return []string{"get handle/h1", "create handle/h1", "get block/" + net, "update block/" + net}
}

func grabMore(net string) []string {
	return []string{"get handle/h1", "update handle/h1", "get block/" + net, "update block/" + net}
}

func back(by string) []string { return []string{"get handle/h1", by + " handle/h1"} }

// inTurn tells so many blocks from first on, in which turn node asks for them.
func inTurn(node string, first uint32, n int) []uint32 {
	h := fnv.New64a()
	h.Write([]byte(node))
	var l []uint32
	for k := range uint64(n) {
		l = append(l, first+64*uint32((h.Sum64()%uint64(n)+k)%uint64(n)))
	}
	return l
}

// blockOf tells a block of the pool, as it stands in keys.
func blockOf(addr uint32) string { return nets[slices.Index(firsts, addr)] }

// some tells n addresses from first on.
func some(first uint32, n int) []uint32 {
	var l []uint32
	for k := range n {
		l = append(l, first+uint32(k))
	}
	return l
}

func want(n int) auto.Want { return auto.Want{Attr: a, N: n} }

func borrows(n int) auto.Want { return auto.Want{Attr: a, N: n, Borrow: true} }

// The example: two, of an open pool without blocks.
func TestExample(t *testing.T) {
	s, first := state(nil), inTurn("n1", base, 4)[0]
	l := wantEnd(t, "the example", s, want(2), api.OK, first, first+1)
	wantAsked(t, "the example", l, start, listBlocks, claimNew(blockOf(first)), grabFirst(blockOf(first)))
	l = wantEnd(t, "one more", s, want(1), api.OK, first+2)
	wantAsked(t, "one more", l, start, grabMore(blockOf(first)))
}

func TestNode(t *testing.T) {
	for _, val := range []string{"-", gone, "", "N", "N\x02", "N\x00\x00", "A\x01"} {
		l := wantEnd(t, "no node", state(records{nodeKey: val, "node/n": present, "node/n11": present}), borrows(2), api.ErrState)
		wantAsked(t, "no node", l, start[:1])
	}
	for e := api.Errno(-1); e < 20; e++ {
		if e == api.OK || e == api.ErrLost {
			continue
		}
		// What else is told beside it does not count.
		got, l := run(t, want(2), func(kv.Op) kv.Result { return kv.Result{Code: e, Val: present, Rev: 3} })
		if !got.is(ending{nil, api.ErrState}) || len(l) != 1 {
			t.Errorf("the node, refused by %d: ended with %v behind %q", e, got, spelt(l))
		}
	}
}

func TestPools(t *testing.T) {
	for _, m := range []records{
		{poolKey: "-"}, {poolKey: closedPool}, {poolKey: ""}, {poolKey: "P\x0a\x00\x00\x00\x18\x02"}, {poolKey: closedPool, nextKey: closedNext},
		{poolKey: openPool + "\x00"}, {poolKey: closedPool, nextKey: "N\x00"},
		{poolKey: closedPool, "aff/n1/10.0.0.0-26": confirmed, "block/10.0.0.0-26": given(base, "n1", 0)},
	} {
		l := wantEnd(t, "no pool", state(m), borrows(2), api.ErrNone)
		wantAsked(t, "no pool", l, start[:2])
	}
	// Others are passed over; those that are open count in order.
	first := inTurn("n1", base+256, 2)
	s := state(records{poolKey: closedPool, nextKey: openNext})
	wantEnd(t, "one that is closed", s, want(200), api.OK, slices.Concat(some(first[0], 64), some(first[1], 64))...)
	s = state(records{nextKey: ""})
	wantEnd(t, "one that says nothing", s, want(1), api.OK, inTurn("n1", base, 4)[0])
	var all []uint32
	for _, addr := range append(inTurn("n1", base, 4), first...) {
		all = append(all, some(addr, 64)...)
	}
	s = state(records{nextKey: openNext})
	wantEnd(t, "two that are open", s, want(384), api.OK, all...)
	wantEnd(t, "two that are full", s, borrows(1), api.ErrFull)
}

// Blocks that are the node's come first, in the order of their affinities.
func TestOwn(t *testing.T) {
	m := records{}
	for k, addr := range firsts {
		m["aff/n1/"+nets[k]] = confirmed
		m["block/"+nets[k]] = given(addr, "n1", 62-k)
	}
	s := state(m)
	l := wantEnd(t, "its own", s, want(7), api.OK, slices.Concat(some(base+62, 2), some(base+128+61, 3), some(base+192+60, 2))...)
	wantAsked(t, "its own", l, start, grabFirst(nets[0]), back("update"), grabMore(nets[1]), back("update"), grabMore(nets[2]))
	l = wantEnd(t, "its own, once more", s, want(7), api.OK, append(some(base+192+62, 2), some(base+64+59, 5)...)...)
	wantAsked(t, "its own, once more", l, start, grabMore(nets[0])[:3], back("update"), grabMore(nets[1])[:3], back("update"), grabMore(nets[2]), back("update"), grabMore(nets[3]))
}

// Of its affinities alone those that are Confirmed count, to blocks of open pools.
func TestOwnThatDoNotCount(t *testing.T) {
	for _, m := range []records{
		{"aff/n1/10.0.0.0-26": pending}, {"aff/n1/10.0.0.0-26": leaving}, {"aff/n1/10.0.0.0-26": ""}, {"aff/n1/10.0.0.0-26": "A\x04"}, {"aff/n1/10.0.0.0-26": confirmed + "\x00"},
		{"aff/n1/10.0.0.0-25": confirmed}, {"aff/n1/10.0.0.1-26": confirmed}, {"aff/n1/": confirmed}, {"aff/n1/n1/10.0.0.0-26": confirmed},
		{"aff/n/10.0.0.0-26": confirmed}, {"aff/n11/10.0.0.0-26": confirmed}, {"aff/n2/10.0.0.0-26": confirmed},
		{"aff/n1/10.0.1.0-26": confirmed, "block/10.0.1.0-26": given(base+256, "n1", 0)},
		{"aff/n1/10.0.1.0-26": confirmed, "block/10.0.1.0-26": given(base+256, "n1", 0), nextKey: closedNext},
		{"aff/n1/9.255.255.192-26": confirmed, "block/9.255.255.192-26": given(base-64, "n1", 0)},
	} {
		// By the list of blocks there is none left to be claimed.
		for k, net := range nets {
			m["block/"+net] = given(firsts[k], "n2", 0)
		}
		l := wantEnd(t, "none of its own", state(m), want(2), api.ErrFull)
		wantAsked(t, "none of its own", l, start, listBlocks)
	}
}

// A block of which its affinity says that it is the node's, but which is not, or is not there, or says nothing, gives nothing, and is not claimed.
func TestOwnThatIsNot(t *testing.T) {
	first := inTurn("n1", base, 4)
	for _, val := range []string{given(first[0], "n2", 0), given(first[0], "", 0), given(first[0], "n11", 3), "", "-"} {
		s := state(records{"aff/n1/" + blockOf(first[0]): confirmed, "block/" + blockOf(first[0]): val})
		l := wantEnd(t, "not its own", s, want(2), api.OK, first[1], first[1]+1)
		wantAsked(t, "not its own", l, start, grabFirst(blockOf(first[0]))[:3], back("delete"), listBlocks, claimNew(blockOf(first[1])), grabFirst(blockOf(first[1])))
	}
}

// Blocks are claimed from the node's seed on, as many as it takes.
func TestClaimInTurn(t *testing.T) {
	for _, node := range []string{"n1", "n2", "a", "worker-17", strings.Repeat("n", api.MaxText)} {
		for _, n := range []int{1, 63, 64, 65, 128, 129, 255, 256, 257, 4096} {
			var all []uint32
			for _, addr := range inTurn(node, base, 4) {
				all = append(all, some(addr, 64)...)
			}
			s := state(records{"node/" + node: present})
			wantEnd(t, "in turn", s, auto.Want{Attr: block.Attr{Handle: "h1", Node: node}, N: n}, api.OK, all[:min(n, 256)]...)
			// No more blocks are claimed than are needed.
			if claimed := len(s.Do(kv.Op{Kind: kv.List, Key: "block/"}).Items); claimed != min((n+63)/64, 4) {
				t.Errorf("%d for %s: %d blocks are claimed", n, node, claimed)
			}
		}
	}
}

// By the list of blocks, those that are somebody else's, or say nothing, are not claimed; nobody's are, and those that are the node's.
func TestWhichAreClaimed(t *testing.T) {
	turn := inTurn("n1", base, 4)
	key := func(k int) string { return "block/" + blockOf(turn[k]) }
	aff := func(k int) string { return "aff/n1/" + blockOf(turn[k]) }
	s := state(records{key(0): given(turn[0], "n2", 0), key(1): "B", key(2): given(turn[2], "n11", 0), key(3): given(turn[3], "", 3)})
	l := wantEnd(t, "nobody's", s, want(2), api.OK, turn[3]+3, turn[3]+4)
	wantAsked(t, "nobody's", l, start, listBlocks, claimOld(blockOf(turn[3]), "create"), grabFirst(blockOf(turn[3])))
	for _, val := range []string{pending, leaving} {
		s = state(records{key(0): given(turn[0], "n1", 5), aff(0): val})
		l = wantEnd(t, "its own, but not Confirmed", s, want(2), api.OK, turn[0]+5, turn[0]+6)
		wantAsked(t, "its own, but not Confirmed", l, start, listBlocks, claimOld(blockOf(turn[0]), "update"), grabFirst(blockOf(turn[0])))
	}
	// One that can't be claimed, as its affinity says nothing, is nothing to the next one.
	s = state(records{aff(0): "A"})
	l = wantEnd(t, "one that can't be claimed", s, want(2), api.OK, turn[1], turn[1]+1)
	wantAsked(t, "one that can't be claimed", l, start, listBlocks, claimNew(blockOf(turn[0]))[:3], claimNew(blockOf(turn[1])), grabFirst(blockOf(turn[1])))
	// A key that is no block's is nothing to those that are.
	s = state(records{"block/" + strings.Replace(blockOf(turn[0]), "-26", "-27", 1): given(turn[0], "n2", 0)})
	wantEnd(t, "no block's key", s, want(1), api.OK, turn[0])
}

// Of its own, those that were tried are not tried once more when it claims.
func TestTriedOnce(t *testing.T) {
	turn := inTurn("n1", base, 4)
	m := records{}
	for _, addr := range turn[:3] {
		m["aff/n1/"+blockOf(addr)] = confirmed
		m["block/"+blockOf(addr)] = given(addr, "n1", 64)
	}
	got, asked := run(t, want(2), state(m).Do)
	if !got.is(ending{some(turn[3], 2), api.OK}) {
		t.Errorf("ended with %v", got)
	}
	l := spelt(asked)
	if k := slices.Index(l, "list block/"); !slices.Equal(l[k+1:], append(claimNew(blockOf(turn[3])), grabFirst(blockOf(turn[3]))...)) {
		t.Errorf("asked %q", l)
	}
}

// What was not there when the blocks were listed may be somebody else's by then.
func TestTakenMeanwhile(t *testing.T) {
	turn := inTurn("n1", base, 4)
	s := state(nil)
	got, asked := run(t, want(2), func(o kv.Op) kv.Result {
		r := s.Do(o)
		if o.Kind == kv.List && o.Key == "block/" {
			s.Do(kv.Op{Kind: kv.Create, Key: "block/" + blockOf(turn[0]), Val: given(turn[0], "n2", 0)})
		}
		return r
	})
	if !got.is(ending{some(turn[1], 2), api.OK}) {
		t.Errorf("ended with %v", got)
	}
	// Of one that could not be claimed nothing is grabbed; the node leaves it.
	left := append(claimNew(blockOf(turn[0]))[:5], "get aff/n1/"+blockOf(turn[0]), "update aff/n1/"+blockOf(turn[0]), "get block/"+blockOf(turn[0]), "get aff/n1/"+blockOf(turn[0]), "delete aff/n1/"+blockOf(turn[0]))
	wantAsked(t, "taken meanwhile", asked, start, listBlocks, left, claimNew(blockOf(turn[1])), grabFirst(blockOf(turn[1])))
	// One that is the node's by the claim, but not any more when it is grabbed, gives nothing: that is asked for.
	s = state(nil)
	took := false
	got, asked = run(t, want(2), func(o kv.Op) kv.Result {
		if o.Key == "handle/h1" && !took {
			key := "block/" + blockOf(turn[0])
			took = s.Do(kv.Op{Kind: kv.Update, Key: key, Val: given(turn[0], "n2", 0), Rev: s.Do(kv.Op{Kind: kv.Get, Key: key}).Rev}).Code == api.OK
		}
		return s.Do(o)
	})
	if !took || !got.is(ending{some(turn[1], 2), api.OK}) {
		t.Errorf("ended with %v behind %q", got, spelt(asked))
	}
}

// others tells a state in which all four blocks are somebody else's, or nobody's, or the node's, each with so many given.
func others(affs [4]string, n [4]int) *kv.State {
	m := records{}
	for k, net := range nets {
		m["block/"+net] = given(firsts[k], affs[k], n[k])
		if affs[k] != "" {
			m["aff/"+affs[k]+"/"+net] = confirmed
		}
	}
	return state(m)
}

func TestBorrow(t *testing.T) {
	affs := [4]string{"n2", "n3", "n2", "n3"}
	s := others(affs, [4]int{62, 64, 63, 0})
	l := wantEnd(t, "borrowed", s, borrows(5), api.OK, base+62, base+63, base+192+63, base+64, base+65)
	wantAsked(t, "borrowed", l, start, listBlocks, listBlocks, grabFirst(nets[0]), back("update"), grabMore(nets[2]), back("update"), grabMore(nets[3]))
	s = others(affs, [4]int{62, 64, 63, 0})
	l = wantEnd(t, "not borrowed", s, want(5), api.ErrFull)
	wantAsked(t, "not borrowed", l, start, listBlocks)
	s = others(affs, [4]int{64, 64, 64, 64})
	l = wantEnd(t, "none to be borrowed", s, borrows(5), api.ErrFull)
	wantAsked(t, "none to be borrowed", l, start, listBlocks, listBlocks)
	s = others(affs, [4]int{60, 60, 60, 60})
	wantEnd(t, "fewer than are wanted", s, borrows(4096), api.OK, slices.Concat(some(base+60, 4), some(base+128+60, 4), some(base+192+60, 4), some(base+64+60, 4))...)
}

// What is its own, or may become so, comes ahead of what is borrowed.
func TestBorrowLast(t *testing.T) {
	s := others([4]string{"n2", "n2", "", "n1"}, [4]int{63, 63, 63, 63})
	l := wantEnd(t, "borrowed last", s, borrows(3), api.OK, base+64+63, base+192+63, base+63)
	wantAsked(t, "borrowed last", l, start, grabFirst(nets[3]), back("update"), listBlocks, claimOld(nets[2], "create"), grabMore(nets[2]), back("update"), listBlocks, grabMore(nets[0]))
}

// The blocks are listed anew ahead of borrowing: of the node's own nothing is borrowed, nor of what is no open pool's, or says nothing; of nobody's something is.
func TestWhichAreBorrowed(t *testing.T) {
	s := others([4]string{"n2", "n2", "n2", "n2"}, [4]int{64, 0, 64, 64})
	s.Do(kv.Op{Kind: kv.Create, Key: "block/10.0.1.0-26", Val: given(base+256, "n2", 0)})
	s.Do(kv.Op{Kind: kv.Create, Key: nextKey, Val: closedNext})
	s.Do(kv.Op{Kind: kv.Create, Key: "block/9.255.255.192-26", Val: given(base-64, "n2", 0)})
	s.Do(kv.Op{Kind: kv.Create, Key: "block/10.0.0.0-27", Val: given(base, "n2", 0)})
	lists := 0
	set := func(k int, val string) {
		key := "block/" + nets[k]
		s.Do(kv.Op{Kind: kv.Update, Key: key, Val: val, Rev: s.Do(kv.Op{Kind: kv.Get, Key: key}).Rev})
	}
	got, asked := run(t, borrows(100), func(o kv.Op) kv.Result {
		if o.Kind == kv.List && o.Key == "block/" {
			lists++
		}
		if lists == 2 {
			lists++
			set(0, given(base, "n1", 0))
			set(1, "B")
			set(2, given(base+192, "", 60))
			set(3, given(base+64, "n11", 61))
		}
		return s.Do(o)
	})
	if !got.is(ending{append(some(base+192+60, 4), some(base+64+61, 3)...), api.OK}) || lists != 3 {
		t.Errorf("ended with %v behind %q", got, spelt(asked))
	}
	wantAsked(t, "borrowed", asked, start, listBlocks, listBlocks, grabFirst(nets[2]), back("update"), grabMore(nets[3]), back("update"))
}

// Keys that are no affinity's, or no block's, say nothing of the least address there is.
func TestNoughtIsNoKeys(t *testing.T) {
	zero := records{poolKey: "-", "pool/0.0.0.0-26": "P\x00\x00\x00\x00\x1a\x01", "aff/n1/x": confirmed, "block/x": given(0, "n2", 0)}
	s := state(zero)
	l := wantEnd(t, "the least address", s, want(1), api.OK, 0)
	wantAsked(t, "the least address", l, start, listBlocks, claimNew("0.0.0.0-26"), grabFirst("0.0.0.0-26"))
	zero["block/0.0.0.0-26"] = given(0, "n2", 64)
	l = wantEnd(t, "the least address, given", state(zero), borrows(1), api.ErrFull)
	wantAsked(t, "the least address, given", l, start, listBlocks, listBlocks)
}

// countedAhead tells by how many each write of h1's handle changed what that had in all, in order.
func countedAhead(l []kv.Op) []int {
	var by []int
	had := 0
	for _, o := range l {
		if o.Key != "handle/h1" || o.Kind == kv.Get {
			continue
		}
		h, _ := handle.Read(o.Val)
		by = append(by, h.Total()-had)
		had = h.Total()
	}
	return by
}

// As many as are wanted still are counted ahead of each grab, and at most 64.
func TestAsManyAsAreWantedStill(t *testing.T) {
	for _, x := range []struct {
		w    auto.Want
		affs [4]string
		n    [4]int
		by   []int
	}{
		{want(1), [4]string{"n1", "n2", "n2", "n2"}, [4]int{0, 0, 0, 0}, []int{1}},
		{want(64), [4]string{"n1", "n2", "n2", "n2"}, [4]int{0, 0, 0, 0}, []int{64}},
		{want(65), [4]string{"n1", "n1", "n2", "n2"}, [4]int{0, 0, 0, 0}, []int{64, 1}},
		{want(4096), [4]string{"n1", "n1", "n2", "n2"}, [4]int{60, 0, 0, 0}, []int{64, -60, 64}},
		{want(68), [4]string{"n1", "n1", "n2", "n2"}, [4]int{60, 0, 0, 0}, []int{64, -60, 64}},
		{want(10), [4]string{"n1", "", "n2", "n2"}, [4]int{60, 60, 60, 60}, []int{10, -6, 6, -2}},
		{borrows(10), [4]string{"n1", "", "n2", "n2"}, [4]int{60, 60, 60, 60}, []int{10, -6, 6, -2, 2}},
		{borrows(129), [4]string{"n2", "n2", "n2", "n2"}, [4]int{0, 1, 0, 0}, []int{64, 64, -1, 2}},
	} {
		_, asked := run(t, x.w, others(x.affs, x.n).Do)
		if by := countedAhead(asked); !slices.Equal(by, x.by) {
			t.Errorf("%+v: counted by %v; want %v", x.w, by, x.by)
		}
	}
}

func TestWantsAsMany(t *testing.T) {
	s := state(records{poolKey: "-", "pool/10.0.0.0-16": "P\x0a\x00\x00\x00\x10\x01"})
	turn := inTurn("n1", base, 1024)
	var all []uint32
	for _, addr := range turn[:65] {
		all = append(all, some(addr, 64)...)
	}
	wantEnd(t, "as many as may be wanted", s, want(4096), api.OK, all[:4096]...)
	wantEnd(t, "one more", s, want(1), api.OK, all[4096])
}

// What a grab ends with counts for nothing, if that is an error.
func TestErrorsCountForNothing(t *testing.T) {
	for val, e := range map[string]api.Errno{"": api.ErrFull, "H\x00\x00": api.OK, "A\x01": api.ErrFull} {
		s := others([4]string{"n1", "n2", "n1", ""}, [4]int{0, 0, 0, 0})
		s.Do(kv.Op{Kind: kv.Create, Key: "handle/h1", Val: val})
		got, asked := run(t, borrows(256), s.Do)
		if got.e != e || e == api.ErrFull && len(got.l) != 0 || e == api.OK && len(got.l) != 256 {
			t.Errorf("of a handle %q: ended with %v behind %q", val, got, spelt(asked))
		}
	}
	// One whose handle has as many there as it may gives nothing of that block, but of the next one.
	s := others([4]string{"n1", "n1", "n2", "n2"}, [4]int{0, 0, 64, 64})
	val, _ := handle.Put(handle.Handle{Counts: []handle.Count{{Block: base, N: 65535}}})
	s.Do(kv.Op{Kind: kv.Create, Key: "handle/h1", Val: val})
	wantEnd(t, "of a handle that is full", s, want(2), api.OK, base+128, base+129)
}

// Wherever the disk goes away: the end, with none.
func TestLost(t *testing.T) {
	fresh := func() *kv.State { return others([4]string{"n2", "n2", "", "n1"}, [4]int{63, 63, 63, 63}) }
	_, whole := run(t, borrows(4), fresh().Do)
	for k := range whole {
		s, steps := fresh(), 0
		got, asked := run(t, borrows(4), func(o kv.Op) kv.Result {
			steps++
			r := s.Do(o)
			if steps == k+1 {
				// What else is told beside it does not count.
				r.Code = api.ErrLost
			}
			return r
		})
		if !got.is(ending{nil, api.ErrLost}) || !slices.Equal(asked, whole[:k+1]) {
			t.Errorf("lost at the step %d: ended with %v behind %q", k, got, spelt(asked))
		}
	}
	if len(whole) < 30 {
		t.Errorf("only %d steps", len(whole))
	}
}

// A List that is refused tells of nothing, whatever else is told beside it.
func TestRefusedLists(t *testing.T) {
	mayClaim := map[uint32][]uint32{firsts[2]: {base + 192 + 63}, firsts[3]: {base + 64 + 62, base + 64 + 63}}
	var inOrder []uint32
	for _, addr := range inTurn("n1", base, 4) {
		inOrder = append(inOrder, mayClaim[addr]...)
	}
	for key, want := range map[string]ending{
		"pool/": {nil, api.ErrNone},
		// What is its own comes then in the turn of what it claims.
		"aff/n1/": {append(inOrder, base+63), api.OK},
		// By that no block is there, so that it tries to claim each, and borrows none.
		"block/": {[]uint32{base + 64 + 62, base + 64 + 63, base + 192 + 63}, api.OK},
	} {
		for _, e := range []api.Errno{api.ErrNil, api.ErrArg, api.ErrNone, api.ErrStale, -1, 99} {
			s := others([4]string{"n2", "n2", "", "n1"}, [4]int{63, 63, 63, 62})
			got, asked := run(t, borrows(4), func(o kv.Op) kv.Result {
				r := s.Do(o)
				if o.Kind == kv.List && o.Key == key {
					r.Code = e
				}
				return r
			})
			if !got.is(want) {
				t.Errorf("%s refused by %d: ended with %v behind %q; want %v", key, e, got, spelt(asked), want)
			}
		}
	}
}

func TestWantsThatMayNotBe(t *testing.T) {
	var l []auto.Want
	for _, n := range []int{math.MinInt, -1, 0, 4097, 4098, math.MaxInt} {
		l = append(l, want(n), borrows(n))
	}
	for _, name := range []string{"", "a/b", "a b", "é", "\xff", strings.Repeat("n", api.MaxText+1)} {
		l = append(l, auto.Want{Attr: block.Attr{Handle: name, Node: "n1"}, N: 2}, auto.Want{Attr: block.Attr{Handle: "h1", Node: name}, N: 2, Borrow: true})
	}
	for _, w := range l {
		for _, p := range []*mach.Proc{nil, mach.New()} {
			var ends []ending
			ahead := kv.Op{Kind: kv.Get, Key: "ahead"}
			p.Ask(ahead, nil)
			auto.Go(p, w, func(l []uint32, e api.Errno) { ends = append(ends, ending{l, e}) })
			if !slices.EqualFunc(ends, []ending{{nil, api.ErrArg}}, ending.is) {
				t.Errorf("%+v: ended %v", w, ends)
			}
			if o, asks := p.Op(); p != nil && (!asks || o != ahead) {
				t.Errorf("%+v: asks %#v, %v", w, o, asks)
			}
			auto.Go(p, w, nil)
		}
	}
	longest := strings.Repeat("n", api.MaxText)
	for _, n := range []int{1, 2, 64, 65, 4095, 4096} {
		p := mach.New()
		auto.Go(p, auto.Want{N: n, Attr: block.Attr{Handle: longest, Node: longest}}, nil)
		if o, asks := p.Op(); !asks || o != (kv.Op{Kind: kv.Get, Key: "node/" + longest}) {
			t.Errorf("of %d: asks %#v, %v", n, o, asks)
		}
	}
}

func TestNoProcedure(t *testing.T) {
	for _, w := range []auto.Want{want(1), borrows(4096)} {
		auto.Go(nil, w, func(l []uint32, e api.Errno) { t.Errorf("without a procedure it ended: %v, %d", l, e) })
		auto.Go(nil, w, nil)
	}
}

// Nobody needs to be called at the end.
func TestNoThen(t *testing.T) {
	for _, m := range []records{nil, {nodeKey: gone}, {poolKey: closedPool}, {"handle/h1": ""}} {
		s, p := state(m), mach.New()
		auto.Go(p, borrows(2), nil)
		if !mach.Run(p, s.Do, 9999) {
			t.Errorf("of %v it goes on", m)
		}
	}
	p := mach.New()
	auto.Go(p, want(2), nil)
	if !mach.Run(p, func(kv.Op) kv.Result { return kv.Result{Code: api.ErrLost} }, 1) {
		t.Error("once the disk went away it goes on")
	}
	s := state(nil)
	auto.Go(p, want(2), nil)
	if b, e := image.Read(s.Do(kv.Op{Kind: kv.Get, Key: "block/" + blockOf(inTurn("n1", base, 4)[0])}).Val); e == api.OK || !mach.Run(p, s.Do, 15) || s.Len() != 5 {
		t.Errorf("nobody is called: %v, %#v", b, s.All())
	}
}

// At the end the procedure asks nothing: whoever is called may ask by it anew, and write into what was told.
func TestOneBehindAnother(t *testing.T) {
	s, p := others([4]string{"n2", "n2", "n2", "n1"}, [4]int{64, 64, 62, 61}), mach.New()
	l := []auto.Want{want(2), borrows(2), want(1), borrows(1), borrows(1)}
	var ends []ending
	var on func(l []uint32, e api.Errno)
	on = func(given []uint32, e api.Errno) {
		ends = append(ends, ending{slices.Clone(given), e})
		clear(given)
		_ = append(given[:0], 7, 7, 7)
		if len(ends) < len(l) {
			auto.Go(p, l[len(ends)], on)
		}
	}
	auto.Go(p, l[0], on)
	want := []ending{{some(base+64+61, 2), api.OK}, {[]uint32{base + 127, base + 192 + 62}, api.OK}, {nil, api.ErrFull}, {[]uint32{base + 255}, api.OK}, {nil, api.ErrFull}}
	if !mach.Run(p, s.Do, 999) || !slices.EqualFunc(ends, want, ending.is) {
		t.Errorf("ended %v by %d steps: %#v", ends, p.Steps(), s.All())
	}
}
