package among

import (
	"math"
	"math/rand"
	"slices"
	"strings"
	"testing"

	"virgate/admin"
	"virgate/api"
	"virgate/auto"
	"virgate/byhand"
	"virgate/cidr"
	"virgate/claim"
	"virgate/drop"
	"virgate/exact"
	"virgate/free"
	"virgate/gc"
	"virgate/grab"
	"virgate/kv"
	"virgate/leave"
	"virgate/mach"
	"virgate/names"
)

// ending is what somebody ended with.
type ending struct {
	l []uint32
	e api.Errno
}

func (x ending) is(y ending) bool { return x.e == y.e && slices.Equal(x.l, y.l) }

// pair is something that is done by a procedure of the project's own, and the same by the words alone.
type pair struct {
	what  string
	bound int
	reach int // how many steps some tell it to take at the least
	own   func(p *mach.Proc, end func(l []uint32, e api.Errno))
	words func(ask asker) ([]uint32, api.Errno)
}

func pairs() []pair {
	l := []pair{
		{"leave", leave.Bound(), 28,
			func(p *mach.Proc, end func(l []uint32, e api.Errno)) {
				leave.Go(p, "n1", base+3, func(e api.Errno) { end(nil, e) })
			},
			func(ask asker) ([]uint32, api.Errno) { return nil, leaveByWords(ask, "n1", base+3) }},
		{"claim", claim.Bound(), 60,
			func(p *mach.Proc, end func(l []uint32, e api.Errno)) {
				claim.Go(p, "n1", base+3, func(e api.Errno) { end(nil, e) })
			},
			func(ask asker) ([]uint32, api.Errno) { return nil, claimByWords(ask, "n1", base+3) }},
		{"back", grab.BackBound(), 12,
			func(p *mach.Proc, end func(l []uint32, e api.Errno)) {
				grab.Back(p, "h1", base+3, 3, func(e api.Errno) { end(nil, e) })
			},
			func(ask asker) ([]uint32, api.Errno) { return nil, backByWords(ask, "h1", base+3, 3) }},
	}
	for _, w := range []want{two, own, more, one, {One: true, At: base + 64, Attr: two.Attr}, {One: true, At: base + 33, N: 7, Attr: two.Attr, Own: "n2"}} {
		l = append(l, pair{"grab", grab.Bound(), 25,
			func(p *mach.Proc, end func(l []uint32, e api.Errno)) { grab.Go(p, base+3, w, end) },
			func(ask asker) ([]uint32, api.Errno) { return grabByWords(ask, base+3, w) }})
	}
	for _, w := range []drop.What{ofH1, few, ofBoth, {Kind: drop.List, L: someOf(base, 64)}, {Kind: 4, L: few.L, ID: "h1"}} {
		// No block that is told is given to more than two handles.
		l = append(l, pair{"drop", drop.Bound(2), 1,
			func(p *mach.Proc, end func(l []uint32, e api.Errno)) { drop.Go(p, base+3, w, end) },
			func(ask asker) ([]uint32, api.Errno) { return dropByWords(ask, base+3, w) }})
	}
	for _, w := range []auto.Want{anyTwo, {Attr: anyTwo.Attr, N: 300}, {Attr: anyTwo.Attr, N: 300, Borrow: true}} {
		l = append(l, pair{"give", math.MaxInt, 150,
			func(p *mach.Proc, end func(l []uint32, e api.Errno)) { auto.Go(p, w, end) },
			func(ask asker) ([]uint32, api.Errno) { return autoByWords(ask, w) }})
	}
	for _, addr := range []uint32{base + 3, base + 63, base + 64} {
		l = append(l, pair{"exact", exact.Bound(), 60,
			func(p *mach.Proc, end func(l []uint32, e api.Errno)) { exact.Go(p, two.Attr, addr, end) },
			func(ask asker) ([]uint32, api.Errno) { return exactByWords(ask, two.Attr, addr) }})
	}
	for _, addrs := range [][]uint32{few.L, someOf(base+32, 64), {base + 200, base + 64, base + 130, base + 65, base + 1, base + 64}, {base + 1}} {
		blocks := len(free.Group(addrs))
		l = append(l, pair{"free", blocks * drop.Bound(2), 20,
			func(p *mach.Proc, end func(l []uint32, e api.Errno)) { free.Go(p, addrs, end) },
			func(ask asker) ([]uint32, api.Errno) { return freeByWords(ask, addrs) }})
	}
	l = append(l, pair{"collect", math.MaxInt, 90,
		func(p *mach.Proc, end func(l []uint32, e api.Errno)) { gc.Go(p, end) },
		collectByWords})
	return append(l, pairsByHand()...)
}

// pairsByHand tells those of what is done by hand: handles, pools and nodes.
func pairsByHand() []pair {
	l := []pair{
		// No handle that is told has more than four Counts, no block is given to more than two handles.
		{"free a handle", 1 + 4*drop.Bound(2), 40,
			func(p *mach.Proc, end func(l []uint32, e api.Errno)) { byhand.Go(p, "h1", end) },
			func(ask asker) ([]uint32, api.Errno) { return freeHandleByWords(ask, "h1") }},
		{"look a handle up", 1 + 4, 5,
			func(p *mach.Proc, end func(l []uint32, e api.Errno)) { byhand.Look(p, "h1", end) },
			func(ask asker) ([]uint32, api.Errno) { return lookByWords(ask, "h1") }},
		{"add a node", api.Retries, 6,
			func(p *mach.Proc, end func(l []uint32, e api.Errno)) {
				admin.AddNode(p, "n1", func(e api.Errno) { end(nil, e) })
			},
			func(ask asker) ([]uint32, api.Errno) { return nil, addNodeByWords(ask, "n1") }},
		{"drop a node", 2 * api.Retries, 12,
			func(p *mach.Proc, end func(l []uint32, e api.Errno)) {
				admin.DropNode(p, "n1", func(e api.Errno) { end(nil, e) })
			},
			func(ask asker) ([]uint32, api.Errno) { return nil, dropNodeByWords(ask, "n1") }},
	}
	for _, n := range []cidr.Net{pool24, pool23, nextNet, farNet} {
		reach := 4
		if n == farNet {
			reach = 24
		}
		l = append(l, pair{"add a pool", admin.Bound(), reach,
			func(p *mach.Proc, end func(l []uint32, e api.Errno)) {
				admin.AddPool(p, n, func(e api.Errno) { end(nil, e) })
			},
			func(ask asker) ([]uint32, api.Errno) { return nil, addPoolByWords(ask, n) }})
		l = append(l, pair{"drop a pool", admin.Bound(), reach,
			func(p *mach.Proc, end func(l []uint32, e api.Errno)) {
				admin.DropPool(p, n, func(e api.Errno) { end(nil, e) })
			},
			func(ask asker) ([]uint32, api.Errno) { return nil, dropPoolByWords(ask, n) }})
		for _, open := range []bool{true, false} {
			l = append(l, pair{"set a pool", 2 * api.Retries, 12,
				func(p *mach.Proc, end func(l []uint32, e api.Errno)) {
					admin.SetPool(p, n, open, func(e api.Errno) { end(nil, e) })
				},
				func(ask asker) ([]uint32, api.Errno) { return nil, setPoolByWords(ask, n, open) }})
		}
	}
	return l
}

// someOf tells n addresses from addr on.
func someOf(addr uint32, n int) []uint32 {
	var l []uint32
	for k := range n {
		l = append(l, addr+uint32(k))
	}
	return l
}

// anyOf tells one of them, each as likely as the others.
func anyOf[T any](chance *rand.Rand, l ...T) T { return l[chance.Intn(len(l))] }

func anyVal(chance *rand.Rand) string {
	return anyOf(chance, pending, confirmed, leaving, present, gone, blockOf("n1", 0), blockOf("n2", 3), blockOf("", 64), handleOf(base, 3), handleOf(base, 65535), handleOf(base+64, 1), handleOfFour(), openPool, closedPool, "H\x00\x00", "", "A\x09")
}

// anyPools tells what may be listed as pools: some are right, open, have the address, or not.
func anyPools(chance *rand.Rand) []kv.Item {
	var l []kv.Item
	for range chance.Intn(4) {
		val := anyOf(chance, openPool, openPool, closedPool, "P\x0a\x00\x01\x00\x18\x01", "P\x0a\x00\x00\x00\x10\x01", "P\x0a\x00\x00\x00\x1a\x01", "P\x0a\x00\x00\x40\x1a\x01", "")
		l = append(l, kv.Item{Key: anyOf(chance, poolKey, "pool/10.0.0.0-16"), Val: val, Rev: int64(chance.Intn(3))})
	}
	return l
}

// nets are the blocks of the pool 10.0.0.0/24, and others, as they stand in keys.
var nets = []string{"10.0.0.0-26", "10.0.0.128-26", "10.0.0.192-26", "10.0.0.64-26", "10.0.1.0-26", "10.0.0.0-27", ""}

// endsUnder tells what stands in keys behind start: nets, for the most part; names of nodes and handles; of all affinities a node's name ahead of each net.
func endsUnder(chance *rand.Rand, start string) []string {
	switch start {
	case "node/":
		return []string{"n3", "", "n1", "n/1", "n11", "n2"}
	case "handle/":
		return []string{"", "h0", "h1", "h/1", "h2", "h3"}
	}
	if start != "aff/" || chance.Intn(4) == 0 {
		return nets
	}
	var l []string
	for _, net := range nets {
		l = append(l, anyOf(chance, "n1/", "n2/", "n11/")+net)
	}
	return l
}

// anyItems tells what may be listed under start, right or not, but never two of one key.
func anyItems(chance *rand.Rand, start string) []kv.Item {
	if start == "pool/" {
		return anyPools(chance)
	}
	var l []kv.Item
	for _, end := range endsUnder(chance, start) {
		if chance.Intn(3) == 0 {
			l = append(l, kv.Item{Key: start + end, Val: anyVal(chance), Rev: int64(chance.Intn(3))})
		}
	}
	return l
}

// anyTold tells what may be told, right or not.
func anyTold(chance *rand.Rand, o kv.Op) kv.Result {
	r := kv.Result{Rev: int64(chance.Intn(3)) - 1, Val: anyVal(chance), Items: anyItems(chance, o.Key)}
	if chance.Intn(5) == 0 {
		r.Code = api.Errno(chance.Intn(15))
	}
	return r
}

// likely tells what fits to what is asked, for the most part, so that one goes on for long.
func likely(chance *rand.Rand, o kv.Op) kv.Result {
	if chance.Intn(25) == 0 {
		return anyTold(chance, o)
	}
	rev := 5 + int64(chance.Intn(2))
	switch o.Kind {
	case kv.List:
		return kv.Result{Rev: rev, Items: likelyItems(chance, o.Key, rev)}
	case kv.Get:
		return likelyFound(chance, o.Key, rev)
	}
	isAff, isBlock := strings.HasPrefix(o.Key, "aff/"), strings.HasPrefix(o.Key, "block/")
	switch {
	case isBlock && chance.Intn(6) > 0, !isBlock && !isAff && chance.Intn(2) > 0:
		return refused(anyOf(chance, api.ErrStale, api.ErrThere, api.ErrNone, api.ErrArg))
	case isAff:
		// A revision that stays lets those go on who look whether it does.
		return kv.Result{Rev: 5}
	}
	return kv.Result{Rev: rev}
}

func likelyItems(chance *rand.Rand, start string, rev int64) []kv.Item {
	if start == "pool/" {
		return []kv.Item{{Key: "pool/10.0.0.0-16", Val: closedPool, Rev: 2}, {Key: poolKey, Val: openPool, Rev: rev}}
	}
	var l []kv.Item
	for _, end := range endsUnder(chance, start) {
		if r := likelyFound(chance, start+end, rev); r.Code == api.OK {
			l = append(l, kv.Item{Key: start + end, Val: r.Val, Rev: r.Rev})
		}
	}
	return l
}

func likelyFound(chance *rand.Rand, key string, rev int64) kv.Result {
	addr, isBlock := names.OfBlock(key)
	switch {
	case key == nodeKey:
		return kv.Result{Rev: rev, Val: present}
	case strings.HasPrefix(key, "node/"):
		return kv.Result{Rev: rev, Val: anyOf(chance, present, gone, gone)}
	case strings.HasPrefix(key, "pool/"):
		return anyOf(chance, refused(api.ErrNone), kv.Result{Rev: rev, Val: closedPool}, kv.Result{Rev: rev, Val: closedPool}, kv.Result{Rev: rev, Val: closedPool}, kv.Result{Rev: rev, Val: openPool})
	case strings.HasPrefix(key, "aff/"):
		return anyOf(chance, refused(api.ErrNone), kv.Result{Rev: 5, Val: pending}, kv.Result{Rev: 5, Val: leaving}, kv.Result{Rev: 5, Val: leaving}, kv.Result{Rev: 5, Val: confirmed})
	case isBlock:
		return anyOf(chance, refused(api.ErrNone), kv.Result{Rev: rev, Val: blockAt(addr, "", 3)}, kv.Result{Rev: rev, Val: blockAt(addr, "n1", 63)}, kv.Result{Rev: rev, Val: blockAt(addr, "n1", 0)}, kv.Result{Rev: rev, Val: blockAt(addr, "n2", chance.Intn(65))})
	}
	return anyOf(chance, refused(api.ErrNone), kv.Result{Rev: rev, Val: handleOf(base, 1)}, kv.Result{Rev: rev, Val: handleOf(base, 64)}, kv.Result{Rev: rev, Val: handleOf(base+64, 3)}, kv.Result{Rev: rev, Val: handleOfFour()})
}

// oftenAsAhead tells what tell does, but for the most part what was told of the like ahead: that leads to the last try.
func oftenAsAhead(chance *rand.Rand, tell func(o kv.Op) kv.Result) func(o kv.Op) kv.Result {
	type like struct {
		kind int
		key  string
	}
	ahead := map[like]kv.Result{}
	return func(o kv.Op) kv.Result {
		x := like{o.Kind, o.Key}
		r, was := ahead[x]
		if !was || chance.Intn(9) == 0 {
			r = tell(o)
		}
		ahead[x] = r
		return r
	}
}

// Whatever is told: each asks what one asks that goes by the words alone, never more often than its bound, and ends once, like that one.
func TestWhateverIsTold(t *testing.T) {
	for _, x := range pairs() {
		chance, most := rand.New(rand.NewSource(21)), 0
		for k := range 3000 {
			tell := func(o kv.Op) kv.Result { return likely(chance, o) }
			if k%4 == 0 {
				tell = func(o kv.Op) kv.Result { return anyTold(chance, o) }
			}
			if k%2 == 0 {
				tell = oftenAsAhead(chance, tell)
			}
			most = max(most, x.goOn(t, tell))
		}
		if most < x.reach {
			t.Errorf("%s: never more than %d steps: too few were tried", x.what, most)
		}
	}
}

// goOn lets both go on by what is told, and tells how many steps they took.
func (x pair) goOn(t *testing.T, tell func(o kv.Op) kv.Result) int {
	t.Helper()
	var got, want []ending
	p := mach.New()
	x.own(p, func(l []uint32, e api.Errno) { got = append(got, ending{l, e}) })
	q, stop := stepwise(x.words, func(l []uint32, e api.Errno) { want = append(want, ending{l, e}) })
	defer stop()
	for {
		a, asks := p.Op()
		b, asksToo := q.Op()
		if a != b || asks != asksToo {
			t.Fatalf("%s: asked %#v, %v at the step %d; want %#v, %v", x.what, a, asks, p.Steps(), b, asksToo)
		}
		if !asks {
			break
		}
		r := tell(a)
		p.Feed(r)
		q.Feed(r)
	}
	if !slices.EqualFunc(got, want, ending.is) || len(got) != 1 || p.Steps() > x.bound {
		t.Fatalf("%s: ended with %v, behind %d steps; want %v", x.what, got, p.Steps(), want)
	}
	return p.Steps()
}
