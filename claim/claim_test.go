package claim_test

import (
	"slices"
	"strings"
	"testing"

	"virgate/api"
	"virgate/block"
	"virgate/claim"
	"virgate/image"
	"virgate/kv"
	"virgate/mach"
)

// base is the first address of the block that is claimed; the keys are those of it, and of n1, written by hand.
const (
	base    = 10 << 24
	poolKey = "pool/10.0.0.0-24"
	nodeKey = "node/n1"
	affKey  = "aff/n1/10.0.0.0-26"
	blkKey  = "block/10.0.0.0-26"
)

// Records, as bytes written by hand.
const (
	openPool   = "P\x0a\x00\x00\x00\x18\x01"
	closedPool = "P\x0a\x00\x00\x00\x18\x00"
	present    = "N\x00"
	gone       = "N\x01"
	pending    = "A\x01"
	confirmed  = "A\x02"
	leaving    = "A\x03"
)

// Revisions that tell apart what they are of.
const (
	poolRev  = 3
	nodeRev  = 4
	affRev   = 5
	since    = 9 // the affinity's, once it is Pending
	blockRev = 7
)

// blockOf tells the bytes of the block at base that is aff's, and of which n addresses are given under two attributes.
func blockOf(aff string, n int) string {
	b, _ := block.New(base, aff)
	b, _, _ = block.Assign(b, n/2, block.Attr{Handle: "h1", Node: "n1"})
	b, _, _ = block.Assign(b, n-n/2, block.Attr{Handle: "h2", Node: "n2"})
	s, _ := image.Put(b)
	return s
}

func get(key string) kv.Op { return kv.Op{Kind: kv.Get, Key: key} }

func update(key, val string, rev int64) kv.Op {
	return kv.Op{Kind: kv.Update, Key: key, Val: val, Rev: rev}
}

func found(val string, rev int64) kv.Result { return kv.Result{Val: val, Rev: rev} }

func written(rev int64) kv.Result { return kv.Result{Rev: rev} }

func refused(e api.Errno) kv.Result { return kv.Result{Code: e} }

func listed(l ...kv.Item) kv.Result { return kv.Result{Rev: 20, Items: l} }

// pool is how the pool is listed.
var pool = kv.Item{Key: poolKey, Val: openPool, Rev: poolRev}

// turn is what has to be asked, and what is told then.
type turn struct {
	asked kv.Op
	told  kv.Result
}

// play holds that n1, claiming the block of addr, asks just what l says, and ends with e, once.
func play(t *testing.T, what string, addr uint32, l []turn, e api.Errno) {
	t.Helper()
	var ends []api.Errno
	p := mach.New()
	claim.Go(p, "n1", addr, func(e api.Errno) { ends = append(ends, e) })
	for k, x := range l {
		o, asks := p.Op()
		if !asks || o != x.asked || len(ends) != 0 {
			t.Errorf("%s: asked %#v, %v at the step %d, ended %v; want %#v", what, o, asks, k, ends, x.asked)
			return
		}
		p.Feed(x.told)
	}
	if o, asks := p.Op(); asks || !slices.Equal(ends, []api.Errno{e}) {
		t.Errorf("%s: ended %v, asks %#v, %v; want %d", what, ends, o, asks, e)
	}
}

func listing(told kv.Result) turn { return turn{kv.Op{Kind: kv.List, Key: "pool/"}, told} }

// opening is how the pool and the node are found, and what the affinity is then.
func opening(aff kv.Result) []turn {
	return []turn{listing(listed(pool)), {get(nodeKey), found(present, nodeRev)}, {get(affKey), aff}}
}

// creating is how an affinity is created that was not there.
func creating() []turn {
	o := kv.Op{Kind: kv.Create, Key: affKey, Val: pending, If: poolKey, IfRev: poolRev}
	return append(opening(refused(api.ErrNone)), turn{o, written(since)})
}

// turning is how an affinity is turned to Pending that stood otherwise.
func turning(val string) []turn {
	return append(opening(found(val, affRev)), turn{update(affKey, pending, affRev), written(since)})
}

// markings is both.
func markings() [][]turn { return [][]turn{creating(), turning(pending), turning(leaving)} }

// taking is how the block is found, and written.
func taking(told kv.Result, val string) []turn {
	o := kv.Op{Kind: kv.Update, Key: blkKey, Val: val, Rev: told.Rev, If: affKey, IfRev: since}
	if told.Code == api.ErrNone {
		o.Kind = kv.Create
	}
	return []turn{{get(blkKey), told}, {o, written(11)}}
}

// confirming is the last step.
var confirming = turn{update(affKey, confirmed, since), written(12)}

// mine is how a block that was nobody's becomes the node's.
func mine() []turn { return taking(found(blockOf("", 3), blockRev), blockOf("n1", 3)) }

// leavings is how the node leaves the block, where it gives up: in one step, or in more, that end otherwise.
func leavings() [][]turn {
	return [][]turn{
		{{get(affKey), refused(api.ErrNone)}},
		{{get(affKey), found("", 30)}},
		{{get(affKey), found(leaving, 30)}, {get(blkKey), refused(api.ErrNone)}, {get(affKey), found(pending, 31)}},
		slices.Repeat([]turn{{get(affKey), found(pending, 30)}, {update(affKey, leaving, 30), refused(api.ErrStale)}}, api.Retries),
		{{get(affKey), found(pending, 30)}, {update(affKey, leaving, 30), written(31)}, {get(blkKey), found(blockOf("n1", 0), 32)}, {get(affKey), found(leaving, 31)},
			{kv.Op{Kind: kv.Delete, Key: blkKey, Rev: 32}, written(33)}, {kv.Op{Kind: kv.Delete, Key: affKey, Rev: 31}, written(34)}},
	}
}

// refusals are all Codes but OK and ErrLost, and ones that are none of api's.
var refusals = []api.Errno{api.ErrArg, api.ErrNil, api.ErrForm, api.ErrMore, api.ErrSum, api.ErrNone, api.ErrThere, api.ErrStale, api.ErrFull, api.ErrState, api.ErrTaken, api.ErrTired, -1, 99}

// notNone are those of them that do not say that there is none.
func notNone() []api.Errno {
	return slices.DeleteFunc(slices.Clone(refusals), func(e api.Errno) bool { return e == api.ErrNone })
}

// wrote tells whether the affinity was written in l, and that not refused.
func wrote(l []turn) bool {
	return slices.ContainsFunc(l, func(x turn) bool { return x.asked.Val == pending && x.told.Code == api.OK })
}

// playAgain holds that what ends a try leads from the beginning on: be it the first one, or more of them, up to the last one, behind which it is given up.
func playAgain(t *testing.T, what string, try []turn) {
	t.Helper()
	whole := slices.Concat(creating(), mine(), []turn{confirming})
	for k := range api.Retries {
		play(t, what, base, slices.Concat(slices.Repeat(try, k), whole), api.OK)
	}
	l := slices.Repeat(try, api.Retries)
	if wrote(l) {
		l = append(l, leavings()[0]...)
	}
	play(t, what, base, l, api.ErrTired)
}

// playGivenUp holds that l leads to giving up with e: at once, where the affinity was not written, else behind leaving, however that ends.
func playGivenUp(t *testing.T, what string, l []turn, e api.Errno) {
	t.Helper()
	if !wrote(l) {
		play(t, what, base, l, e)
		l = slices.Concat(creating(), mine(), []turn{{confirming.asked, refused(api.ErrStale)}}, l)
	}
	for _, left := range leavings() {
		play(t, what, base, slices.Concat(l, left), e)
		for k := range left {
			lost := slices.Clone(left[:k+1])
			lost[k].told = refused(api.ErrLost)
			play(t, what, base, slices.Concat(l, lost), api.ErrLost)
		}
	}
}

func TestBlockThatIsNotThere(t *testing.T) {
	for _, l := range markings() {
		play(t, "not there", base, slices.Concat(l, taking(refused(api.ErrNone), blockOf("n1", 0)), []turn{confirming}), api.OK)
	}
}

func TestBlockOfNobodyOrOwn(t *testing.T) {
	for _, l := range markings() {
		for _, aff := range []string{"", "n1"} {
			for _, n := range []int{0, 1, 63, 64} {
				play(t, "nobody's or own", base, slices.Concat(l, taking(found(blockOf(aff, n), blockRev), blockOf("n1", n)), []turn{confirming}), api.OK)
			}
		}
	}
}

// A block in which some were freed has its slots in another order: they stay in that one.
func TestBlockKeepsAllThatItHad(t *testing.T) {
	b, _ := image.Read(blockOf("", 9))
	b, _, _ = block.Release(b, []uint32{base + 8, base + 2, base})
	nobodys, _ := image.Put(b)
	b.Aff = "n1"
	own, _ := image.Put(b)
	play(t, "some freed", base, slices.Concat(creating(), taking(found(nobodys, blockRev), own), []turn{confirming}), api.OK)
}

func TestBlockOfSomebodyElse(t *testing.T) {
	for _, l := range markings() {
		for _, aff := range []string{"n2", "n11", "n"} {
			for _, n := range []int{0, 5} {
				playGivenUp(t, "somebody else's", append(l[:len(l):len(l)], turn{get(blkKey), found(blockOf(aff, n), blockRev)}), api.ErrTaken)
			}
		}
	}
}

// badBlocks are bytes that are no block's.
func badBlocks() []string {
	whole := blockOf("n1", 3)
	return []string{"", "B", whole[:len(whole)-1], whole + "\x00", "b" + whole[1:], confirmed}
}

func TestBlockThatSaysNothing(t *testing.T) {
	for _, val := range badBlocks() {
		told := turn{get(blkKey), found(val, blockRev)}
		for _, l := range markings() {
			playGivenUp(t, "a block that says nothing", append(l[:len(l):len(l)], told), api.ErrForm)
		}
		playGivenUp(t, "a Confirmed one that says nothing", append(opening(found(confirmed, affRev)), told), api.ErrForm)
	}
}

func TestConfirmedAlready(t *testing.T) {
	l := opening(found(confirmed, affRev))
	for _, n := range []int{0, 3, 64} {
		play(t, "Confirmed", base, append(l, turn{get(blkKey), found(blockOf("n1", n), blockRev)}), api.OK)
	}
	for _, told := range []kv.Result{found(blockOf("", 0), blockRev), found(blockOf("", 3), blockRev), found(blockOf("n2", 3), blockRev), found(blockOf("n11", 0), blockRev)} {
		playAgain(t, "Confirmed, but not its own", append(l, turn{get(blkKey), told}))
	}
	for _, e := range refusals {
		// What else is told beside it does not count.
		told := kv.Result{Code: e, Val: blockOf("n1", 3)}
		playAgain(t, "Confirmed, but not told", append(l, turn{get(blkKey), told}))
	}
}

func TestAffinityThatSaysNothing(t *testing.T) {
	for _, val := range []string{"", "A", "A\x00", "A\x04", "A\xff", "A\x02\x00", "a\x02", "N\x01", "\x02", blockOf("n1", 0)} {
		playGivenUp(t, "an affinity that says nothing", opening(found(val, affRev)), api.ErrForm)
	}
}

func TestNodes(t *testing.T) {
	for _, x := range []struct {
		told kv.Result
		e    api.Errno
	}{
		{refused(api.ErrNone), api.ErrState},
		{found(gone, nodeRev), api.ErrState},
		{found("", nodeRev), api.ErrForm},
		{found("N", nodeRev), api.ErrForm},
		{found("N\x02", nodeRev), api.ErrForm},
		{found("N\x00\x00", nodeRev), api.ErrForm},
		{found("n\x00", nodeRev), api.ErrForm},
		{found(pending, nodeRev), api.ErrForm},
	} {
		playGivenUp(t, "a node", []turn{listing(listed(pool)), {get(nodeKey), x.told}}, x.e)
	}
}

func TestNoPool(t *testing.T) {
	closed := kv.Item{Key: poolKey, Val: closedPool, Rev: poolRev}
	beside := kv.Item{Key: "pool/10.0.1.0-24", Val: "P\x0a\x00\x01\x00\x18\x01", Rev: 1}
	below := kv.Item{Key: "pool/9.255.0.0-16", Val: "P\x09\xff\x00\x00\x10\x01", Rev: 1}
	for _, l := range [][]kv.Item{nil, {closed}, {beside}, {below, beside}, {below, closed, beside}, {closed, closed}} {
		playGivenUp(t, "no pool", []turn{listing(listed(l...))}, api.ErrNone)
	}
	// What says nothing stands ahead of what would be the pool; behind it nobody reads.
	for _, val := range []string{"", "P", "P\x0a\x00\x00\x00\x18", "P\x0a\x00\x00\x00\x18\x02", "P\x0a\x00\x00\x01\x18\x01", "P\x0a\x00\x00\x00\x1b\x01", "P\x0a\x00\x00\x00\x0f\x01", present} {
		bad := kv.Item{Key: poolKey, Val: val, Rev: poolRev}
		for _, l := range [][]kv.Item{{bad}, {bad, pool}, {closed, bad, pool}, {beside, bad}} {
			playGivenUp(t, "a pool that says nothing", []turn{listing(listed(l...))}, api.ErrForm)
		}
		whole := slices.Concat(creating(), mine(), []turn{confirming})
		whole[0] = listing(listed(closed, beside, pool, bad))
		play(t, "behind the pool one that says nothing", base, whole, api.OK)
	}
}

// The first one that is open, and has the address, is the pool: an affinity comes only if that one has not changed.
func TestWhichPool(t *testing.T) {
	for _, x := range []struct {
		key, val string
		has      []uint32
		hasNot   []uint32
	}{
		{"pool/10.0.0.0-24", "P\x0a\x00\x00\x00\x18\x01", []uint32{base, base + 63, base + 255}, []uint32{base - 1, base + 256}},
		{"pool/10.0.0.0-26", "P\x0a\x00\x00\x00\x1a\x01", []uint32{base, base + 63}, []uint32{base - 1, base + 64}},
		{"pool/10.0.0.0-16", "P\x0a\x00\x00\x00\x10\x01", []uint32{base, base + 1<<16 - 1}, []uint32{base - 1, base + 1<<16}},
		{"pool/255.255.0.0-16", "P\xff\xff\x00\x00\x10\x01", []uint32{1<<32 - 1, 1<<32 - 1<<16}, []uint32{0, 1<<32 - 1<<16 - 1}},
		{"pool/0.0.0.0-26", "P\x00\x00\x00\x00\x1a\x01", []uint32{0, 63}, []uint32{64, 1<<32 - 1}},
	} {
		closed := kv.Item{Key: "pool/1", Val: closedPool, Rev: 1}
		it := kv.Item{Key: x.key, Val: x.val, Rev: 17}
		second := kv.Item{Key: "pool/2", Val: x.val, Rev: 18}
		for _, addr := range x.has {
			net := netOf(addr)
			play(t, "a pool", addr, []turn{
				listing(listed(closed, it, second)),
				{get(nodeKey), found(present, nodeRev)},
				{get("aff/n1/" + net), refused(api.ErrNone)},
				{kv.Op{Kind: kv.Create, Key: "aff/n1/" + net, Val: pending, If: x.key, IfRev: 17}, refused(api.ErrLost)},
			}, api.ErrLost)
		}
		for _, addr := range x.hasNot {
			play(t, "no pool", addr, []turn{listing(listed(it))}, api.ErrNone)
		}
	}
}

// netOf tells the net of a's block, as it stands in keys.
func netOf(a uint32) string {
	return map[uint32]string{
		base: "10.0.0.0-26", base + 192: "10.0.0.192-26", base + 1<<16 - 64: "10.0.255.192-26",
		1<<32 - 64: "255.255.255.192-26", 1<<32 - 1<<16: "255.255.0.0-26", 0: "0.0.0.0-26",
	}[a&^63]
}

func TestAddresses(t *testing.T) {
	for _, addr := range []uint32{base, base + 1, base + 63, base + 192, base + 255} {
		net := netOf(addr)
		b, _ := block.New(addr, "n1")
		val, _ := image.Put(b)
		play(t, "an address", addr, []turn{
			listing(listed(pool)),
			{get(nodeKey), found(present, nodeRev)},
			{get("aff/n1/" + net), refused(api.ErrNone)},
			{kv.Op{Kind: kv.Create, Key: "aff/n1/" + net, Val: pending, If: poolKey, IfRev: poolRev}, written(since)},
			{get("block/" + net), refused(api.ErrNone)},
			{kv.Op{Kind: kv.Create, Key: "block/" + net, Val: val, If: "aff/n1/" + net, IfRev: since}, written(11)},
			{update("aff/n1/"+net, confirmed, since), written(12)},
		}, api.OK)
		play(t, "an address of somebody else's", addr, []turn{
			listing(listed(pool)),
			{get(nodeKey), found(present, nodeRev)},
			{get("aff/n1/" + net), found(leaving, affRev)},
			{update("aff/n1/"+net, pending, affRev), written(since)},
			{get("block/" + net), found(blockOf("n2", 1), blockRev)},
			{get("aff/n1/" + net), refused(api.ErrNone)},
		}, api.ErrTaken)
	}
}

// What is not told, or refused, leads from the beginning on.
func TestRefused(t *testing.T) {
	for _, e := range refusals {
		// What else is told beside it does not count.
		playAgain(t, "pools", []turn{listing(kv.Result{Code: e, Items: []kv.Item{pool}})})
		for _, l := range markings() {
			l[len(l)-1].told = kv.Result{Code: e, Rev: since}
			playAgain(t, "marking", l)
		}
		for _, l := range markings() {
			for _, x := range [][]turn{taking(refused(api.ErrNone), blockOf("n1", 0)), mine(), taking(found(blockOf("n1", 3), blockRev), blockOf("n1", 3))} {
				x[1].told = refused(e)
				playAgain(t, "taking", slices.Concat(l, x))
			}
			playAgain(t, "confirming", slices.Concat(l, mine(), []turn{{confirming.asked, refused(e)}}))
		}
	}
	for _, e := range notNone() {
		playAgain(t, "the node", []turn{listing(listed(pool)), {get(nodeKey), kv.Result{Code: e, Val: present}}})
		playAgain(t, "the affinity", opening(kv.Result{Code: e, Val: pending, Rev: affRev}))
		for _, l := range markings() {
			playAgain(t, "the block", append(l, turn{get(blkKey), kv.Result{Code: e, Val: blockOf("", 0), Rev: blockRev}}))
		}
	}
}

// Of each try what it read is its own.
func TestTryReadsAnew(t *testing.T) {
	l := slices.Concat(creating(), mine(), []turn{{confirming.asked, refused(api.ErrStale)}}, []turn{
		listing(listed(kv.Item{Key: "pool/10.0.0.0-16", Val: "P\x0a\x00\x00\x00\x10\x01", Rev: 30})),
		{get(nodeKey), found(present, 31)},
		{get(affKey), refused(api.ErrNone)},
		{kv.Op{Kind: kv.Create, Key: affKey, Val: pending, If: "pool/10.0.0.0-16", IfRev: 30}, written(33)},
		{get(blkKey), found(blockOf("", 2), 34)},
		{kv.Op{Kind: kv.Update, Key: blkKey, Val: blockOf("n1", 2), Rev: 34, If: affKey, IfRev: 33}, refused(api.ErrStale)},
		listing(listed(pool)),
		{get(nodeKey), found(present, 31)},
		{get(affKey), found(pending, 35)},
		{update(affKey, pending, 35), written(36)},
		{get(blkKey), refused(api.ErrNone)},
		{kv.Op{Kind: kv.Create, Key: blkKey, Val: blockOf("n1", 0), If: affKey, IfRev: 36}, written(37)},
		{update(affKey, confirmed, 36), written(38)},
	})
	play(t, "anew", base, l, api.OK)
}

// Who was refused with all that he wrote has written nothing, and leaves nothing.
func TestNothingToLeave(t *testing.T) {
	for _, l := range markings() {
		l[len(l)-1].told = refused(api.ErrStale)
		play(t, "not written", base, append(slices.Repeat(l, 2), listing(listed())), api.ErrNone)
	}
}

func TestLost(t *testing.T) {
	wholes := [][]turn{append(opening(found(confirmed, affRev)), turn{get(blkKey), found(blockOf("n1", 3), blockRev)})}
	for _, l := range markings() {
		wholes = append(wholes, slices.Concat(l, mine(), []turn{confirming}), slices.Concat(l, taking(refused(api.ErrNone), blockOf("n1", 0)), []turn{confirming}))
	}
	for _, whole := range wholes {
		again := slices.Concat(creating(), mine(), []turn{{confirming.asked, refused(api.ErrStale)}})
		for k := range whole {
			l := slices.Clone(whole[:k+1])
			// What else is told beside it does not count.
			l[k].told.Code = api.ErrLost
			play(t, "lost", base, l, api.ErrLost)
			// Even who has written the affinity leaves nothing: the disk is gone.
			play(t, "lost in a later try", base, slices.Concat(again, l), api.ErrLost)
		}
	}
}

func TestNames(t *testing.T) {
	for _, node := range []string{"", "a/b", "a b", "é", "\xff", "n1\n", strings.Repeat("n", api.MaxText+1)} {
		for _, p := range []*mach.Proc{nil, mach.New()} {
			var ends []api.Errno
			ahead := get("ahead")
			p.Ask(ahead, nil)
			claim.Go(p, node, base, func(e api.Errno) { ends = append(ends, e) })
			if !slices.Equal(ends, []api.Errno{api.ErrArg}) {
				t.Errorf("of the name %q: ended %v", node, ends)
			}
			if o, asks := p.Op(); p != nil && (!asks || o != ahead) {
				t.Errorf("of the name %q: asks %#v, %v", node, o, asks)
			}
			claim.Go(p, node, base, nil)
		}
	}
	longest := strings.Repeat("n", api.MaxText)
	for _, node := range []string{"n", "A.b-c_9", longest} {
		s, p := world(node), mach.New()
		ended := api.Errno(-1)
		claim.Go(p, node, base, func(e api.Errno) { ended = e })
		done := mach.Run(p, s.Do, 7)
		b, e := image.Read(s.Do(get(blkKey)).Val)
		if !done || ended != api.OK || e != api.OK || b.Aff != node || s.Do(get("aff/"+node+"/10.0.0.0-26")).Val != confirmed {
			t.Errorf("of the name %q: ended %d: %#v", node, ended, s.All())
		}
	}
}

// world tells a state of an open pool, and of nodes.
func world(nodes ...string) *kv.State {
	s := kv.New()
	s.Do(kv.Op{Kind: kv.Create, Key: poolKey, Val: openPool})
	for _, node := range nodes {
		s.Do(kv.Op{Kind: kv.Create, Key: "node/" + node, Val: present})
	}
	return s
}

func TestNoProcedure(t *testing.T) {
	claim.Go(nil, "n1", base, func(e api.Errno) { t.Errorf("without a procedure it ended: %d", e) })
	claim.Go(nil, "n1", base, nil)
}

// Nobody needs to be called at the end.
func TestNoThen(t *testing.T) {
	for _, told := range []kv.Result{refused(api.ErrNone), refused(api.ErrLost), found("", 1), listed(pool), listed()} {
		p := mach.New()
		claim.Go(p, "n1", base, nil)
		if !mach.Run(p, func(kv.Op) kv.Result { return told }, claim.Bound()) {
			t.Errorf("told %#v it goes on", told)
		}
	}
	s, p := world("n1"), mach.New()
	claim.Go(p, "n1", base, nil)
	if !mach.Run(p, s.Do, 7) || s.Len() != 4 {
		t.Errorf("nobody is called: %#v", s.All())
	}
}

// At the end the procedure asks nothing: whoever is called may ask by it anew.
func TestOneBehindAnother(t *testing.T) {
	s, p := world("n1", "n2"), mach.New()
	var ends []api.Errno
	end := func(e api.Errno) { ends = append(ends, e) }
	claim.Go(p, "n1", base, func(e api.Errno) {
		end(e)
		claim.Go(p, "n2", base+9, func(e api.Errno) {
			end(e)
			claim.Go(p, "n2", base+64, end)
		})
	})
	if !mach.Run(p, s.Do, 99) || !slices.Equal(ends, []api.Errno{api.OK, api.ErrTaken, api.OK}) || s.Len() != 7 || p.Steps() != 7+10+7 {
		t.Errorf("ended %v by %d steps: %#v", ends, p.Steps(), s.All())
	}
}

// Of two that claim one block step by step one is told OK, the other one that it is taken, in whatever turns.
func TestTwo(t *testing.T) {
	for turns := range 1 << 12 {
		s, ends := world("n1", "n2"), [2]api.Errno{-1, -1}
		procs := [2]*mach.Proc{mach.New(), mach.New()}
		claim.Go(procs[0], "n1", base, func(e api.Errno) { ends[0] = e })
		claim.Go(procs[1], "n2", base, func(e api.Errno) { ends[1] = e })
		for k := range 12 {
			mach.Run(procs[turns>>k&1], s.Do, 1)
		}
		mach.Run(procs[0], s.Do, claim.Bound())
		mach.Run(procs[1], s.Do, claim.Bound())
		slices.Sort(ends[:])
		if ends != [2]api.Errno{api.OK, api.ErrTaken} || s.Len() != 5 {
			t.Fatalf("turns %b: ended %v: %#v", turns, ends, s.All())
		}
	}
}

func TestBound(t *testing.T) {
	if claim.Bound() != 78 {
		t.Errorf("Bound is %d", claim.Bound())
	}
	// The longest way there is: each try is refused at its last step, and leaving at the last but one.
	p, ended := mach.New(), api.Errno(-1)
	claim.Go(p, "n1", base, func(e api.Errno) { ended = e })
	l := slices.Repeat(slices.Concat(creating(), mine(), []turn{{confirming.asked, refused(api.ErrStale)}}), api.Retries)
	try := slices.Clone(leavings()[4])
	try[4].told = refused(api.ErrStale)
	for _, x := range append(l, slices.Repeat(try[:5], api.Retries)...) {
		p.Feed(x.told)
	}
	if ended != api.ErrTired || p.Steps() != 42+30 {
		t.Errorf("ended %d behind %d steps", ended, p.Steps())
	}
}
