package client_test

import (
	"fmt"
	"math"
	"math/rand"
	"slices"
	"testing"

	"virgate/admin"
	"virgate/api"
	"virgate/auto"
	"virgate/block"
	"virgate/byhand"
	"virgate/cidr"
	"virgate/claim"
	"virgate/client"
	"virgate/exact"
	"virgate/free"
	"virgate/gc"
	"virgate/handle"
	"virgate/image"
	"virgate/kv"
	"virgate/leave"
	"virgate/mach"
	"virgate/view"
)

// base is the first address of the pool that most is done in.
const base = 10 << 24

var (
	pool24  = cidr.Net{Addr: base, Bits: 24}
	nextNet = cidr.Net{Addr: base + 256, Bits: 24}
)

// state tells a state of an open pool, the nodes n1 and n2, and n3, that is gone.
func state() *kv.State {
	s := kv.New()
	for _, it := range [][2]string{{"pool/10.0.0.0-24", "P\x0a\x00\x00\x00\x18\x01"}, {"node/n1", "N\x00"}, {"node/n2", "N\x00"}, {"node/n3", "N\x01"}} {
		s.Do(kv.Op{Kind: kv.Create, Key: it[0], Val: it[1]})
	}
	return s
}

// ending is what somebody ended with.
type ending struct {
	l []uint32
	e api.Errno
}

func (x ending) is(y ending) bool { return x.e == y.e && slices.Equal(x.l, y.l) }

func told(l ...uint32) ending { return ending{l, api.OK} }

func failed(e api.Errno) ending { return ending{nil, e} }

// wantEnd holds what a client tells behind the end, and that it asks nothing any more.
func wantEnd(t *testing.T, what string, c *client.Client, want ending) {
	t.Helper()
	steps := c.Steps()
	for range 2 {
		r, done := c.Done()
		if got := (ending{r.L, r.Code}); !done || !got.is(want) {
			t.Fatalf("%s: Done tells %v, %v; want %v", what, r, done, want)
		}
		if o, asks := c.Op(); asks || o != (kv.Op{}) || c.Feed(kv.Result{Val: "x"}) || c.Steps() != steps {
			t.Fatalf("%s: done, it asks %#v, %v, behind %d steps", what, o, asks, c.Steps())
		}
	}
}

// wantAsks holds that a client asks something, behind so many steps, and is not done.
func wantAsks(t *testing.T, what string, c *client.Client, steps int) kv.Op {
	t.Helper()
	o, asks := c.Op()
	if r, done := c.Done(); !asks || done || r.Code != api.OK || r.L != nil || c.Steps() != steps {
		t.Fatalf("%s: asks %#v, %v; Done tells %v, %v behind %d steps; want %d", what, o, asks, r, done, c.Steps(), steps)
	}
	return o
}

// does lets a client do o at s, to its end, and holds what it tells.
func does(t *testing.T, s *kv.State, o client.Op, want ending) {
	t.Helper()
	what := fmt.Sprintf("%+v", o)
	c := client.New(o)
	for k := 0; k < 9999; k++ {
		if _, asks := c.Op(); !asks {
			break
		}
		if !c.Feed(s.Do(wantAsks(t, what, c, k))) {
			t.Fatalf("%s: it is not fed at the step %d", what, k)
		}
	}
	wantEnd(t, what, c, want)
}

// The example: claiming a block in an open pool.
func TestExample(t *testing.T) {
	s := state()
	c := client.New(client.Op{Kind: client.Claim, Node: "n1", Addr: base})
	for k := range 7 {
		if !c.Feed(s.Do(wantAsks(t, "a claim", c, k))) {
			t.Fatalf("it is not fed at the step %d", k)
		}
	}
	if c.Steps() != 7 {
		t.Errorf("%d steps", c.Steps())
	}
	wantEnd(t, "a claim", c, told())
}

func TestKinds(t *testing.T) {
	for k, kind := range []int{client.Auto, client.Exact, client.Free, client.FreeHandle, client.Look, client.Claim, client.Leave, client.AddPool, client.SetPool, client.DropPool, client.AddNode, client.DropNode, client.Collect} {
		if kind != k+1 {
			t.Errorf("the kind %d is %d", k+1, kind)
		}
	}
	full := client.Op{Node: "n1", Handle: "h1", Addr: base, L: []uint32{base}, N: 1, Borrow: true, Open: true, Net: pool24}
	for _, kind := range []int{0, -1, 14, 15, 1 << 8, 1<<8 + 1, 1<<32 + 1, math.MinInt, math.MaxInt} {
		o := full
		o.Kind = kind
		c := client.New(o)
		wantEnd(t, "no kind", c, failed(api.ErrArg))
		if c.Steps() != 0 {
			t.Errorf("the kind %d: %d steps", kind, c.Steps())
		}
	}
	wantEnd(t, "nothing at all", client.New(client.Op{}), failed(api.ErrArg))
}

// Each kind, one behind the other, at one state.
func TestEachKind(t *testing.T) {
	s := state()
	four := []uint32{base, base + 1, base + 2, base + 3}
	does(t, s, client.Op{Kind: client.Claim, Node: "n1", Addr: base + 9}, told())
	does(t, s, client.Op{Kind: client.Claim, Node: "n2", Addr: base + 9}, failed(api.ErrTaken))
	does(t, s, client.Op{Kind: client.Auto, Node: "n1", Handle: "h1", N: 4}, told(four...))
	does(t, s, client.Op{Kind: client.Exact, Node: "n2", Handle: "h2", Addr: base + 9}, told(base+9))
	does(t, s, client.Op{Kind: client.Exact, Node: "n2", Handle: "h2", Addr: base + 9}, failed(api.ErrTaken))
	does(t, s, client.Op{Kind: client.Look, Handle: "h1"}, told(four...))
	does(t, s, client.Op{Kind: client.Free, L: []uint32{base + 2, base + 9, base + 2, base + 200}}, told(base+2, base+9))
	does(t, s, client.Op{Kind: client.Look, Handle: "h1"}, told(base, base+1, base+3))
	does(t, s, client.Op{Kind: client.FreeHandle, Handle: "h1"}, told(base, base+1, base+3))
	does(t, s, client.Op{Kind: client.Look, Handle: "h1"}, failed(api.ErrNone))
	does(t, s, client.Op{Kind: client.FreeHandle, Handle: "h1"}, failed(api.ErrNone))
	does(t, s, client.Op{Kind: client.DropPool, Net: pool24}, failed(api.ErrState))
	does(t, s, client.Op{Kind: client.Leave, Node: "n1", Addr: base + 63}, told())
	does(t, s, client.Op{Kind: client.AddPool, Net: nextNet}, told())
	does(t, s, client.Op{Kind: client.AddPool, Net: nextNet}, failed(api.ErrTaken))
	does(t, s, client.Op{Kind: client.SetPool, Net: pool24}, told())
	does(t, s, client.Op{Kind: client.Auto, Node: "n1", Handle: "h1", N: 1}, told(base+256+s64("n1")))
	does(t, s, client.Op{Kind: client.SetPool, Net: nextNet, Open: false}, told())
	does(t, s, client.Op{Kind: client.Auto, Node: "n1", Handle: "h1", N: 1}, failed(api.ErrNone))
	does(t, s, client.Op{Kind: client.SetPool, Net: nextNet, Open: true}, told())
	does(t, s, client.Op{Kind: client.DropPool, Net: pool24}, told())
	does(t, s, client.Op{Kind: client.AddNode, Node: "n4"}, told())
	does(t, s, client.Op{Kind: client.AddNode, Node: "n4"}, failed(api.ErrThere))
	does(t, s, client.Op{Kind: client.DropNode, Node: "n1"}, told())
	does(t, s, client.Op{Kind: client.DropNode, Node: "n5"}, failed(api.ErrNone))
	does(t, s, client.Op{Kind: client.Collect}, told(base+256+s64("n1")))
	does(t, s, client.Op{Kind: client.Collect}, told())
	if v, e := view.Of(s.All()); e != api.OK || len(v.Given())+len(v.Blocks)+len(v.Affs)+len(v.Handles) != 0 || len(v.Pools) != 1 || len(v.Nodes) != 4 {
		t.Errorf("left %#v", s.All())
	}
}

// s64 tells where in a pool of 24 bits the block stands that node asks for first.
func s64(node string) uint32 {
	h := uint64(0xcbf29ce484222325)
	for k := range len(node) {
		h = (h ^ uint64(node[k])) * 0x100000001b3
	}
	return uint32(h%4) * 64
}

// More than the blocks of the node have is given only to whoever may borrow.
func TestBorrow(t *testing.T) {
	for _, borrow := range []bool{false, true} {
		s := state()
		for k := range uint32(4) {
			does(t, s, client.Op{Kind: client.Claim, Node: "n2", Addr: base + 64*k}, told())
		}
		want := failed(api.ErrFull)
		if borrow {
			want = told(base, base+1)
		}
		does(t, s, client.Op{Kind: client.Auto, Node: "n1", Handle: "h1", N: 2, Borrow: borrow}, want)
	}
}

// What may not be asked is refused at once, as its chapter says.
func TestRefusedAtOnce(t *testing.T) {
	for _, o := range []client.Op{
		{Kind: client.Auto, Node: "n1", Handle: "h1"},
		{Kind: client.Auto, Node: "n1", Handle: "h1", N: 4097},
		{Kind: client.Auto, Node: "n1", N: 1},
		{Kind: client.Auto, Handle: "h1", N: 1},
		{Kind: client.Exact, Node: "n/1", Handle: "h1", Addr: base},
		{Kind: client.Exact, Node: "n1", Handle: "", Addr: base},
		{Kind: client.Free, L: make([]uint32, 4097)},
		{Kind: client.FreeHandle, Node: "n1"},
		{Kind: client.Look, Node: "n1"},
		{Kind: client.Claim, Handle: "n1"},
		{Kind: client.Leave, Handle: "n1"},
		{Kind: client.AddPool},
		{Kind: client.AddPool, Net: cidr.Net{Addr: base, Bits: 27}},
		{Kind: client.SetPool, Net: cidr.Net{Addr: base + 1, Bits: 24}},
		{Kind: client.DropPool, Net: cidr.Net{Addr: base, Bits: -1}},
		{Kind: client.AddNode, Handle: "n1"},
		{Kind: client.DropNode, Node: "n 1"},
	} {
		c := client.New(o)
		wantEnd(t, fmt.Sprintf("%+v", o), c, failed(api.ErrArg))
		if c.Steps() != 0 {
			t.Errorf("%+v: %d steps", o, c.Steps())
		}
	}
	// There is nothing to free: that is no error.
	wantEnd(t, "an empty list", client.New(client.Op{Kind: client.Free}), told())
}

func TestNil(t *testing.T) {
	var c *client.Client
	if o, asks := c.Op(); asks || o != (kv.Op{}) {
		t.Errorf("none asks %#v, %v", o, asks)
	}
	if r, done := c.Done(); done || r.Code != api.OK || r.L != nil {
		t.Errorf("of none Done tells %v, %v", r, done)
	}
	if c.Feed(kv.Result{}) || c.Feed(kv.Result{Code: api.ErrLost, Val: "x"}) || c.Steps() != 0 {
		t.Error("none is fed")
	}
}

// Who was made by hand asks nothing, and does not panic.
func TestMadeByHand(t *testing.T) {
	var c client.Client
	if o, asks := c.Op(); asks || o != (kv.Op{}) || c.Feed(kv.Result{}) || c.Steps() != 0 {
		t.Errorf("made by hand it asks %#v, %v", o, asks)
	}
	if r, _ := c.Done(); r.Code != api.OK || r.L != nil {
		t.Errorf("made by hand it tells %v", r)
	}
}

// The list that is handed in is neither kept nor changed, and what was told is written into by nobody else.
func TestListsAreApart(t *testing.T) {
	s := state()
	does(t, s, client.Op{Kind: client.Auto, Node: "n1", Handle: "h1", N: 64}, told(someOf(base+s64("n1"), 64)...))
	first := base + s64("n1")
	l := []uint32{first + 5, first + 3, first + 900}
	c := client.New(client.Op{Kind: client.Free, L: l})
	for k := 0; ; k++ {
		if _, asks := c.Op(); !asks {
			break
		}
		if !slices.Equal(l, []uint32{first + 5, first + 3, first + 900}) {
			t.Fatalf("the list is %v", l)
		}
		l[0], l[1] = first+7, first+8
		c.Feed(s.Do(wantAsks(t, "free", c, k)))
		l[0], l[1] = first+5, first+3
	}
	want := told(first+5, first+3)
	wantEnd(t, "free", c, want)
	for range 2 {
		r, _ := c.Done()
		clear(r.L)
		_ = append(r.L[:1], 7)
		wantEnd(t, "what was told is written into", c, want)
	}
}

func someOf(addr uint32, n int) []uint32 {
	var l []uint32
	for k := range n {
		l = append(l, addr+uint32(k))
	}
	return l
}

// begins is what begins something by a procedure.
type begins func(p *mach.Proc, end func(l []uint32, e api.Errno))

// layerOf tells what the chapter of its kind says that o is.
func layerOf(o client.Op) begins {
	attr := block.Attr{Handle: o.Handle, Node: o.Node}
	only := func(f func(p *mach.Proc, then func(e api.Errno))) begins {
		return func(p *mach.Proc, end func(l []uint32, e api.Errno)) {
			f(p, func(e api.Errno) { end(nil, e) })
		}
	}
	return map[int]begins{
		1: func(p *mach.Proc, end func(l []uint32, e api.Errno)) {
			auto.Go(p, auto.Want{Attr: attr, N: o.N, Borrow: o.Borrow}, end)
		},
		2:  func(p *mach.Proc, end func(l []uint32, e api.Errno)) { exact.Go(p, attr, o.Addr, end) },
		3:  func(p *mach.Proc, end func(l []uint32, e api.Errno)) { free.Go(p, o.L, end) },
		4:  func(p *mach.Proc, end func(l []uint32, e api.Errno)) { byhand.Go(p, o.Handle, end) },
		5:  func(p *mach.Proc, end func(l []uint32, e api.Errno)) { byhand.Look(p, o.Handle, end) },
		6:  only(func(p *mach.Proc, then func(e api.Errno)) { claim.Go(p, o.Node, o.Addr, then) }),
		7:  only(func(p *mach.Proc, then func(e api.Errno)) { leave.Go(p, o.Node, o.Addr, then) }),
		8:  only(func(p *mach.Proc, then func(e api.Errno)) { admin.AddPool(p, o.Net, then) }),
		9:  only(func(p *mach.Proc, then func(e api.Errno)) { admin.SetPool(p, o.Net, o.Open, then) }),
		10: only(func(p *mach.Proc, then func(e api.Errno)) { admin.DropPool(p, o.Net, then) }),
		11: only(func(p *mach.Proc, then func(e api.Errno)) { admin.AddNode(p, o.Node, then) }),
		12: only(func(p *mach.Proc, then func(e api.Errno)) { admin.DropNode(p, o.Node, then) }),
		13: func(p *mach.Proc, end func(l []uint32, e api.Errno)) { gc.Go(p, end) },
		14: only(func(p *mach.Proc, then func(e api.Errno)) { then(api.ErrArg) }),
	}[o.Kind]
}

// anyAsked tells anything that may be asked, of all kinds, and of one that is none; some of it is refused.
func anyAsked(chance *rand.Rand) client.Op {
	node := func() string { return []string{"n1", "n2", "n3", "n4", ""}[chance.Intn(5)] }
	o := client.Op{Kind: 1 + chance.Intn(14), Node: node(), Handle: []string{"h1", "h2", "h1", ""}[chance.Intn(4)], Addr: base + uint32(chance.Intn(300)), N: chance.Intn(200) - 1, Borrow: chance.Intn(2) == 0, Open: chance.Intn(2) == 0}
	o.Net = []cidr.Net{pool24, nextNet, {Addr: base, Bits: 23}, {Addr: base + 1, Bits: 24}}[chance.Intn(4)]
	for range chance.Intn(9) {
		o.L = append(o.L, base+uint32(chance.Intn(300)))
	}
	return o
}

// Of each kind a client asks what the procedure of its chapter asks, whatever is told, and tells what that ends with; as long as it asks something it is not done.
func TestAsItsChapterSays(t *testing.T) {
	chance := rand.New(rand.NewSource(30))
	ends := map[int]map[api.Errno]int{}
	for range 6000 {
		s := anyState(chance)
		o := anyAsked(chance)
		var got []ending
		p, c := mach.New(), client.New(o)
		layerOf(o)(p, func(l []uint32, e api.Errno) { got = append(got, ending{l, e}) })
		what := fmt.Sprintf("%+v", o)
		for a, asks := p.Op(); asks; a, asks = p.Op() {
			if b := wantAsks(t, what, c, p.Steps()); a != b {
				t.Fatalf("%s: asks %#v at the step %d; want %#v", what, b, p.Steps(), a)
			}
			r := s.Do(a)
			if chance.Intn(20) == 0 {
				r = kv.Result{Code: []api.Errno{api.ErrLost, api.ErrStale, api.ErrNone, api.Errno(1 + chance.Intn(13))}[chance.Intn(4)]}
			}
			if p.Feed(r); !c.Feed(r) {
				t.Fatalf("%s: it is not fed at the step %d", what, p.Steps())
			}
		}
		wantEnd(t, what, c, got[0])
		if ends[o.Kind] == nil {
			ends[o.Kind] = map[api.Errno]int{}
		}
		ends[o.Kind][got[0].e]++
	}
	for kind := range 13 {
		if ends[kind+1][api.OK] == 0 || ends[kind+1][api.ErrLost] == 0 {
			t.Errorf("of the kind %d too few were tried: %v", kind+1, ends[kind+1])
		}
	}
}

// anyState tells a state behind some clients that went on to their ends, or stopped.
func anyState(chance *rand.Rand) *kv.State {
	s := state()
	for range chance.Intn(6) {
		c := client.New(anyAsked(chance))
		for o, asks := c.Op(); asks && chance.Intn(40) > 0; o, asks = c.Op() {
			c.Feed(s.Do(o))
		}
	}
	return s
}

// Who goes on alone to the end is told what is so then.
func TestWhatIsTold(t *testing.T) {
	s := state()
	does(t, s, client.Op{Kind: client.Exact, Node: "n1", Handle: "h1", Addr: base + 70}, told(base+70))
	b, e := image.Read(s.Do(kv.Op{Kind: kv.Get, Key: "block/10.0.0.64-26"}).Val)
	a, given := b.Of(base + 70)
	h, eh := handle.Read(s.Do(kv.Op{Kind: kv.Get, Key: "handle/h1"}).Val)
	if e != api.OK || !given || a != (block.Attr{Handle: "h1", Node: "n1"}) || b.Aff != "n1" || eh != api.OK || h.Total() != 1 {
		t.Errorf("left %#v", s.All())
	}
}
