package leave_test

import (
	"slices"
	"strings"
	"testing"

	"virgate/api"
	"virgate/block"
	"virgate/image"
	"virgate/kv"
	"virgate/leave"
	"virgate/mach"
)

// base is the first address of the block that is left; the keys are those of it, written by hand.
const (
	base   = 10 << 24
	affKey = "aff/n1/10.0.0.0-26"
	blkKey = "block/10.0.0.0-26"
)

// How affinities stand, as bytes written by hand.
const (
	pending   = "A\x01"
	confirmed = "A\x02"
	leaving   = "A\x03"
)

// Revisions that tell apart what they are of.
const (
	affRev    = 5
	markedRev = 9
	blockRev  = 7
)

func attr(handle, node string) block.Attr {
	return block.Attr{Handle: handle, Node: node}
}

// blockOf tells the bytes of the block at base that is aff's, and of which n addresses are given under two attributes.
func blockOf(aff string, n int) string {
	b, _ := block.New(base, aff)
	b, _, _ = block.Assign(b, n/2, attr("h1", "n1"))
	b, _, _ = block.Assign(b, n-n/2, attr("h2", "n2"))
	s, _ := image.Put(b)
	return s
}

func get(key string) kv.Op { return kv.Op{Kind: kv.Get, Key: key} }

func update(key, val string, rev int64) kv.Op {
	return kv.Op{Kind: kv.Update, Key: key, Val: val, Rev: rev}
}

func remove(key string, rev int64) kv.Op { return kv.Op{Kind: kv.Delete, Key: key, Rev: rev} }

func found(val string, rev int64) kv.Result { return kv.Result{Val: val, Rev: rev} }

func written(rev int64) kv.Result { return kv.Result{Rev: rev} }

func refused(e api.Errno) kv.Result { return kv.Result{Code: e} }

// turn is what has to be asked, and what is told then.
type turn struct {
	asked kv.Op
	told  kv.Result
}

// play holds that n1, leaving the block of addr, asks just what l says, and ends with e, once.
func play(t *testing.T, what string, addr uint32, l []turn, e api.Errno) {
	t.Helper()
	var ends []api.Errno
	p := mach.New()
	leave.Go(p, "n1", addr, func(e api.Errno) { ends = append(ends, e) })
	for k, x := range l {
		o, asks := p.Op()
		if !asks || o != x.asked || len(ends) != 0 {
			t.Errorf("%s: asked %#v, %v at the step %d, ended %v; want %#v", what, o, asks, k, ends, x.asked)
			return
		}
		p.Feed(x.told)
	}
	if o, asks := p.Op(); asks || !slices.Equal(ends, []api.Errno{e}) {
		t.Errorf("%s: ended %v, asks %#v, %v; want %d", what, ends, o, asks, e)
	}
}

// marking is how an affinity is found, and turned to Leaving.
func marking(val string) []turn {
	return []turn{
		{get(affKey), found(val, affRev)},
		{update(affKey, leaving, affRev), written(markedRev)},
	}
}

// looking is how the block is found, and the affinity not changed.
func looking(told kv.Result) []turn {
	return []turn{
		{get(blkKey), told},
		{get(affKey), found(leaving, markedRev)},
	}
}

var forgetting = turn{remove(affKey, markedRev), written(12)}

func TestNoAffinity(t *testing.T) {
	play(t, "none", base, []turn{{get(affKey), refused(api.ErrNone)}}, api.OK)
}

func TestAffinityThatSaysNothing(t *testing.T) {
	for _, val := range []string{"", "A", "A\x00", "A\x04", "A\xff", "A\x02\x00", "a\x02", "N\x01", "\x02", blockOf("n1", 0)} {
		play(t, "an affinity that says nothing", base, []turn{{get(affKey), found(val, affRev)}}, api.ErrForm)
	}
}

func TestBlockWithNothingGiven(t *testing.T) {
	for _, val := range []string{pending, confirmed} {
		l := slices.Concat(marking(val), looking(found(blockOf("n1", 0), blockRev)), []turn{{remove(blkKey, blockRev), written(11)}, forgetting})
		play(t, "nothing given", base, l, api.OK)
	}
}

func TestBlockWithSomeGiven(t *testing.T) {
	for _, n := range []int{1, 2, 63, 64} {
		l := slices.Concat(marking(confirmed), looking(found(blockOf("n1", n), blockRev)), []turn{{update(blkKey, blockOf("", n), blockRev), written(11)}, forgetting})
		play(t, "some given", base, l, api.OK)
	}
}

// A block in which some were freed has its slots in another order: they stay in that one.
func TestBlockKeepsAllThatItHad(t *testing.T) {
	b, _ := image.Read(blockOf("n1", 9))
	b, _, _ = block.Release(b, []uint32{base + 8, base + 2, base})
	mine, _ := image.Put(b)
	b.Aff = ""
	nobodys, _ := image.Put(b)
	l := slices.Concat(marking(confirmed), looking(found(mine, blockRev)), []turn{{update(blkKey, nobodys, blockRev), written(11)}, forgetting})
	play(t, "some freed", base, l, api.OK)
}

// What is Leaving already is not written once more: its revision is the one that was read.
func TestLeavingAlready(t *testing.T) {
	for _, x := range []struct {
		told kv.Result
		l    []turn
	}{
		{refused(api.ErrNone), nil},
		{found(blockOf("n2", 0), blockRev), nil},
		{found(blockOf("n1", 0), blockRev), []turn{{remove(blkKey, blockRev), written(11)}}},
		{found(blockOf("n1", 3), blockRev), []turn{{update(blkKey, blockOf("", 3), blockRev), written(11)}}},
	} {
		l := slices.Concat([]turn{{get(affKey), found(leaving, markedRev)}}, looking(x.told), x.l, []turn{forgetting})
		play(t, "Leaving already", base, l, api.OK)
	}
}

func TestBlockOfSomebodyElse(t *testing.T) {
	for _, told := range []kv.Result{
		refused(api.ErrNone),
		found(blockOf("n2", 0), blockRev), found(blockOf("n2", 3), blockRev), found(blockOf("n11", 0), blockRev),
		found(blockOf("", 0), blockRev), found(blockOf("", 3), blockRev),
	} {
		play(t, "not the node's", base, slices.Concat(marking(confirmed), looking(told), []turn{forgetting}), api.OK)
	}
}

func TestBlockThatSaysNothing(t *testing.T) {
	whole := blockOf("n1", 3)
	for _, val := range []string{"", "B", whole[:len(whole)-1], whole + "\x00", "b" + whole[1:], confirmed} {
		play(t, "a block that says nothing", base, slices.Concat(marking(confirmed), looking(found(val, blockRev))), api.ErrForm)
	}
}

// An affinity that has changed since it was Leaving is the end, whatever the block is.
func TestAffinityThatChanged(t *testing.T) {
	blocks := []kv.Result{refused(api.ErrNone), found(blockOf("n1", 0), blockRev), found(blockOf("n1", 3), blockRev), found(blockOf("n2", 0), blockRev), found("", blockRev)}
	changed := []kv.Result{refused(api.ErrNone), found(leaving, markedRev+1), found(pending, 10), found(confirmed, affRev), found("", 10), refused(api.ErrStale), {Code: api.ErrNil, Rev: markedRev, Val: leaving}}
	for _, b := range blocks {
		for _, r := range changed {
			l := append(marking(confirmed), turn{get(blkKey), b}, turn{get(affKey), r})
			play(t, "a changed affinity", base, l, api.ErrStale)
		}
	}
}

// refusals are all Codes but OK and ErrLost, and ones that are none of api's.
var refusals = []api.Errno{api.ErrArg, api.ErrNil, api.ErrForm, api.ErrMore, api.ErrSum, api.ErrNone, api.ErrThere, api.ErrStale, api.ErrFull, api.ErrState, api.ErrTaken, api.ErrTired, -1, 99}

func TestRefusedMarking(t *testing.T) {
	for _, e := range refusals {
		l := marking(confirmed)
		l[1].told = refused(e)
		play(t, "refused once", base, append(l, turn{get(affKey), refused(api.ErrNone)}), api.OK)
		play(t, "refused ever", base, slices.Repeat(l, api.Retries), api.ErrTired)
	}
}

func TestRefusedLettingGo(t *testing.T) {
	for _, e := range refusals {
		for _, x := range []struct {
			n     int
			asked kv.Op
		}{{0, remove(blkKey, blockRev)}, {3, update(blkKey, blockOf("", 3), blockRev)}} {
			l := slices.Concat(marking(pending), looking(found(blockOf("n1", x.n), blockRev)), []turn{{x.asked, refused(e)}})
			play(t, "refused once", base, append(l, turn{get(affKey), refused(api.ErrNone)}), api.OK)
			play(t, "refused ever", base, slices.Repeat(l, api.Retries), api.ErrTired)
		}
	}
}

// The last try is one like all others.
func TestLastTry(t *testing.T) {
	mine := looking(found(blockOf("n1", 0), blockRev))
	try := slices.Concat(marking(confirmed), mine, []turn{{remove(blkKey, blockRev), refused(api.ErrStale)}})
	last := slices.Concat(marking(confirmed), mine, []turn{{remove(blkKey, blockRev), written(11)}, forgetting})
	for k := range api.Retries {
		play(t, "tries", base, slices.Concat(slices.Repeat(try, k), last), api.OK)
	}
}

// Of each try what it read is its own.
func TestTryReadsAnew(t *testing.T) {
	l := slices.Concat(marking(confirmed), looking(found(blockOf("n1", 0), blockRev)), []turn{{remove(blkKey, blockRev), refused(api.ErrStale)}}, []turn{
		{get(affKey), found(pending, 20)},
		{update(affKey, leaving, 20), written(21)},
		{get(blkKey), found(blockOf("n1", 2), 22)},
		{get(affKey), found(leaving, 21)},
		{update(blkKey, blockOf("", 2), 22), written(23)},
		{remove(affKey, 21), written(24)},
	})
	play(t, "anew", base, l, api.OK)
}

func TestRefusedForgetting(t *testing.T) {
	for _, e := range refusals {
		for _, told := range []kv.Result{refused(api.ErrNone), found(blockOf("n2", 0), blockRev)} {
			l := slices.Concat(marking(confirmed), looking(told), []turn{{forgetting.asked, refused(e)}})
			play(t, "refused", base, l, api.ErrStale)
		}
	}
}

func TestLost(t *testing.T) {
	for _, n := range []int{0, 3} {
		whole := slices.Concat(marking(confirmed), looking(found(blockOf("n1", n), blockRev)), []turn{{remove(blkKey, blockRev), written(11)}, forgetting})
		if n > 0 {
			whole[4].asked = update(blkKey, blockOf("", n), blockRev)
		}
		for k := range whole {
			l := slices.Clone(whole[:k+1])
			// What else is told beside it does not count.
			l[k].told.Code = api.ErrLost
			play(t, "lost", base, l, api.ErrLost)
		}
	}
}

func TestAddresses(t *testing.T) {
	for addr, net := range map[uint32]string{base: "10.0.0.0-26", base + 63: "10.0.0.0-26", base + 64: "10.0.0.64-26", 0: "0.0.0.0-26", 63: "0.0.0.0-26", 1<<32 - 1: "255.255.255.192-26", 1<<32 - 64: "255.255.255.192-26"} {
		b, _ := block.New(addr, "n1")
		val, _ := image.Put(b)
		play(t, "an address", addr, []turn{
			{get("aff/n1/" + net), found(leaving, 3)},
			{get("block/" + net), found(val, 4)},
			{get("aff/n1/" + net), found(leaving, 3)},
			{remove("block/"+net, 4), written(5)},
			{remove("aff/n1/"+net, 3), written(6)},
		}, api.OK)
	}
}

func TestNames(t *testing.T) {
	for _, node := range []string{"", "a/b", "a b", "é", "\xff", "n1\n", strings.Repeat("n", api.MaxText+1)} {
		for _, p := range []*mach.Proc{nil, mach.New()} {
			var ends []api.Errno
			ahead := get("ahead")
			p.Ask(ahead, nil)
			leave.Go(p, node, base, func(e api.Errno) { ends = append(ends, e) })
			if !slices.Equal(ends, []api.Errno{api.ErrArg}) {
				t.Errorf("of the name %q: ended %v", node, ends)
			}
			if o, asks := p.Op(); p != nil && (!asks || o != ahead) {
				t.Errorf("of the name %q: asks %#v, %v", node, o, asks)
			}
			leave.Go(p, node, base, nil)
		}
	}
	longest := strings.Repeat("n", api.MaxText)
	for _, node := range []string{"n", "A.b-c_9", longest} {
		p := mach.New()
		leave.Go(p, node, base, nil)
		if o, asks := p.Op(); !asks || o != get("aff/"+node+"/10.0.0.0-26") {
			t.Errorf("of the name %q: asks %#v, %v", node, o, asks)
		}
	}
}

func TestNoProcedure(t *testing.T) {
	leave.Go(nil, "n1", base, func(e api.Errno) { t.Errorf("without a procedure it ended: %d", e) })
	leave.Go(nil, "n1", base, nil)
}

// Nobody needs to be called at the end.
func TestNoThen(t *testing.T) {
	for _, told := range []kv.Result{refused(api.ErrNone), refused(api.ErrLost), found("", 1), refused(api.ErrStale)} {
		p := mach.New()
		leave.Go(p, "n1", base, nil)
		if !mach.Run(p, func(kv.Op) kv.Result { return told }, leave.Bound()) {
			t.Errorf("told %#v it goes on", told)
		}
	}
}

// At the end the procedure asks nothing: whoever is called may ask by it anew.
func TestOneBehindAnother(t *testing.T) {
	s, p := kv.New(), mach.New()
	s.Do(kv.Op{Kind: kv.Create, Key: affKey, Val: confirmed})
	s.Do(kv.Op{Kind: kv.Create, Key: "aff/n2/10.0.0.0-26", Val: pending})
	var ends []api.Errno
	leave.Go(p, "n1", base, func(e api.Errno) {
		ends = append(ends, e)
		leave.Go(p, "n2", base, func(e api.Errno) { ends = append(ends, e) })
	})
	if !mach.Run(p, s.Do, 99) || !slices.Equal(ends, []api.Errno{api.OK, api.OK}) || s.Len() != 0 || p.Steps() != 10 {
		t.Errorf("ended %v by %d steps: %#v", ends, p.Steps(), s.All())
	}
}

func TestBound(t *testing.T) {
	if leave.Bound() != 36 {
		t.Errorf("Bound is %d", leave.Bound())
	}
}
