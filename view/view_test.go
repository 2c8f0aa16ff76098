package view_test

import (
	"maps"
	"math"
	"math/rand"
	"slices"
	"strconv"
	"strings"
	"testing"

	"virgate/api"
	"virgate/block"
	"virgate/cidr"
	"virgate/handle"
	"virgate/image"
	"virgate/kv"
	"virgate/recs"
	"virgate/view"
)

const base = 10 << 24

// What the tests write records of by hand, for n1, h1 and the net 10.0.0.0/24.
const (
	poolKey  = "pool/10.0.0.0-24"
	poolVal  = "P\x0a\x00\x00\x00\x18\x01"
	blockKey = "block/10.0.0.64-26"
	affKey   = "aff/n1/10.0.0.64-26"
	h1Key    = "handle/h1"
	h1Val    = "H\x00\x01\x0a\x00\x00\x40\x00\x02"
)

func attr(handle, node string) block.Attr {
	return block.Attr{Handle: handle, Node: node}
}

// dotted tells an address as it stands in a key.
func dotted(a uint32) string {
	var l []string
	for _, shift := range []int{24, 16, 8, 0} {
		l = append(l, strconv.Itoa(int(a>>shift&255)))
	}
	return strings.Join(l, ".")
}

// anyBlock tells the block of a, of which some is given under a few attributes.
func anyBlock(chance *rand.Rand, a uint32) block.Block {
	b, _ := block.New(a, []string{"", "n1", "n2"}[chance.Intn(3)])
	for range chance.Intn(4) {
		b, _, _ = block.Assign(b, chance.Intn(20), attr("h"+strconv.Itoa(chance.Intn(4)), "n"+strconv.Itoa(chance.Intn(3))))
	}
	if given := b.Given(); len(given) > 3 {
		b, _, _ = block.Release(b, given[1:3])
	}
	return b
}

func item(key, val string) kv.Item {
	return kv.Item{Key: key, Val: val, Rev: 1}
}

func poolItem(p recs.Pool) kv.Item {
	s, _ := recs.PutPool(p)
	return item("pool/"+dotted(p.Net.Addr)+"-"+strconv.Itoa(p.Net.Bits), s)
}

func blockItem(b block.Block) kv.Item {
	s, _ := image.Put(b)
	return item("block/"+dotted(b.Addr)+"-26", s)
}

func handleItem(id string, h handle.Handle) kv.Item {
	s, _ := handle.Put(h)
	return item("handle/"+id, s)
}

func affItem(a view.Aff, state int) kv.Item {
	return item("aff/"+a.Node+"/"+dotted(a.Block)+"-26", "A"+string(rune(state)))
}

func nodeItem(name string, gone bool) kv.Item {
	if gone {
		return item("node/"+name, "N\x01")
	}
	return item("node/"+name, "N\x00")
}

// empty tells a view with nothing in it, into which something can be put.
func empty() view.View {
	return view.View{Affs: map[view.Aff]int{}, Handles: map[string]handle.Handle{}, Nodes: map[string]bool{}}
}

// world tells items in any order, and the view that has what they say, by another way.
func world(chance *rand.Rand) ([]kv.Item, view.View) {
	v := empty()
	l := []kv.Item{item("lock", "L")}
	for _, k := range chance.Perm(8)[:chance.Intn(9)] {
		l = append(l, poolItem(recs.Pool{Net: cidr.Net{Addr: base + uint32(k)<<9, Bits: 23 + chance.Intn(4)}, Open: chance.Intn(2) == 0}))
	}
	for _, k := range chance.Perm(64)[:chance.Intn(20)] {
		l = append(l, blockItem(anyBlock(chance, base+uint32(k)*64)))
	}
	for k := range chance.Intn(30) {
		a := view.Aff{Node: "n" + strconv.Itoa(k%3), Block: base + uint32(k)*64}
		v.Affs[a] = 1 + chance.Intn(3)
		l = append(l, affItem(a, v.Affs[a]))
	}
	for k := range chance.Intn(6) {
		h, _ := handle.Add(handle.Handle{}, base+uint32(chance.Intn(1<<12)), chance.Intn(9))
		v.Handles["h"+strconv.Itoa(k)], _ = handle.Add(h, base+uint32(chance.Intn(1<<12)), chance.Intn(9))
		l = append(l, handleItem("h"+strconv.Itoa(k), v.Handles["h"+strconv.Itoa(k)]))
	}
	for k := range chance.Intn(6) {
		v.Nodes["n"+strconv.Itoa(k)] = chance.Intn(2) == 0
		l = append(l, nodeItem("n"+strconv.Itoa(k), v.Nodes["n"+strconv.Itoa(k)]))
	}
	chance.Shuffle(len(l), func(i, j int) { l[i], l[j] = l[j], l[i] })
	for _, it := range l {
		if strings.HasPrefix(it.Key, "pool/") {
			p, _ := recs.ReadPool(it.Val)
			v.Pools = append(v.Pools, p)
		} else if strings.HasPrefix(it.Key, "block/") {
			b, _ := image.Read(it.Val)
			v.Blocks = append(v.Blocks, b)
		}
	}
	return l, v
}

func sameHandle(a, b handle.Handle) bool {
	return slices.Equal(a.Counts, b.Counts)
}

func same(v, w view.View) bool {
	return slices.Equal(v.Pools, w.Pools) && slices.EqualFunc(v.Blocks, w.Blocks, block.Same) && maps.Equal(v.Affs, w.Affs) && maps.EqualFunc(v.Handles, w.Handles, sameHandle) && maps.Equal(v.Nodes, w.Nodes)
}

func isZero(v view.View) bool {
	return v.Pools == nil && v.Blocks == nil && v.Affs == nil && v.Handles == nil && v.Nodes == nil
}

// wantForm holds that l can't be viewed.
func wantForm(t *testing.T, what string, l []kv.Item) {
	t.Helper()
	if v, e := view.Of(l); !isZero(v) || e != api.ErrForm {
		t.Errorf("%s: Of tells %v, %d", what, v, e)
	}
}

// P18.1: all that items say, in whatever order they stand.
func TestOf(t *testing.T) {
	chance := rand.New(rand.NewSource(18))
	for range 300 {
		l, want := world(chance)
		kept := slices.Clone(l)
		v, e := view.Of(l)
		if e != api.OK || !same(v, want) {
			t.Fatalf("Of(%v): %v, %d; want %v", l, v, e, want)
		}
		if !slices.Equal(l, kept) {
			t.Error("what was handed in has changed")
		}
	}
}

// P18.1: of nothing there is nothing; the lock says nothing.
func TestOfNothing(t *testing.T) {
	for _, l := range [][]kv.Item{nil, {}, {item("lock", "L")}} {
		v, e := view.Of(l)
		if e != api.OK || !same(v, view.View{}) || len(v.Given()) != 0 || v.Free() != 0 {
			t.Errorf("Of(%v): %v, %d", l, v, e)
		}
	}
}

// P18.1: each kind of item, written by hand.
func TestRecords(t *testing.T) {
	b, _ := block.New(base+64, "n1")
	b, _ = block.AssignAt(b, base+70, attr("h1", "n2"))
	val, _ := image.Put(b)
	v, e := view.Of([]kv.Item{item("pool/10.0.0.0-16", "P\x0a\x00\x00\x00\x10\x00"), item(poolKey, poolVal), item(blockKey, val), item(affKey, "A\x01"), item("aff/n2/10.0.0.64-26", "A\x02"), item("aff/n1/255.255.255.192-26", "A\x03"), item(h1Key, h1Val), item("handle/n1", "H\x00\x00"), item("node/n1", "N\x00"), item("node/h1", "N\x01")})
	want := view.View{
		Pools:   []recs.Pool{{Net: cidr.Net{Addr: base, Bits: 16}}, {Net: cidr.Net{Addr: base, Bits: 24}, Open: true}},
		Blocks:  []block.Block{b},
		Affs:    map[view.Aff]int{{Node: "n1", Block: base + 64}: 1, {Node: "n2", Block: base + 64}: 2, {Node: "n1", Block: 1<<32 - 64}: 3},
		Handles: map[string]handle.Handle{"h1": {Counts: []handle.Count{{Block: base + 64, N: 2}}}, "n1": {}},
		Nodes:   map[string]bool{"n1": false, "h1": true},
	}
	if e != api.OK || !same(v, want) {
		t.Errorf("Of: %v, %d; want %v", v, e, want)
	}
}

// P18.1: since when an item is, is not asked for.
func TestRevs(t *testing.T) {
	for _, rev := range []int64{0, -1, math.MinInt64, math.MaxInt64, 5} {
		if v, e := view.Of([]kv.Item{{Key: "node/n1", Val: "N\x01", Rev: rev}, {Key: "lock", Val: "L", Rev: rev}}); e != api.OK || !v.Nodes["n1"] {
			t.Errorf("Of items since %d: %v, %d", rev, v, e)
		}
	}
}

// wrongItems are no records, each for one thing.
func wrongItems() map[string]kv.Item {
	b, _ := block.New(base+64, "n1")
	val, _ := image.Put(b)
	return map[string]kv.Item{
		"no key":                  item("", "L"),
		"no value":                item("lock", ""),
		"another lock":            item("lock", "M"),
		"a longer lock":           item("lock", "LL"),
		"a longer key of it":      item("lock/", "L"),
		"a locked node":           item("node/n1", "L"),
		"another key":             item("else", "L"),
		"great letters":           item("LOCK", "L"),
		"a kind without a name":   item("node/", "N\x00"),
		"a kind alone":            item("node", "N\x00"),
		"a wrong name":            item("node/a b", "N\x00"),
		"a node's part":           item("node/n1/x", "N\x00"),
		"a name too long":         item("node/"+strings.Repeat("n", 65), "N\x00"),
		"an affinity for a node":  item("node/n1", "A\x01"),
		"a node cut off":          item("node/n1", "N"),
		"a node too long":         item("node/n1", "N\x00\x00"),
		"a node of 2":             item("node/n1", "N\x02"),
		"a node for an affinity":  item(affKey, "N\x01"),
		"an affinity of 0":        item(affKey, "A\x00"),
		"an affinity of 4":        item(affKey, "A\x04"),
		"an affinity's net":       item("aff/n1/10.0.0.0-25", "A\x01"),
		"an affinity's address":   item("aff/n1/10.0.0.65-26", "A\x01"),
		"an affinity of nobody":   item("aff//10.0.0.64-26", "A\x01"),
		"an affinity to nothing":  item("aff/n1/", "A\x01"),
		"no value of affinity":    item(affKey, ""),
		"a handle's wrong name":   item("handle/", h1Val),
		"a node for a handle":     item(h1Key, "N\x00"),
		"a handle cut off":        item(h1Key, h1Val[:8]),
		"a handle of none":        item(h1Key, "H\x00\x01\x0a\x00\x00\x40\x00\x00"),
		"a handle not of a block": item(h1Key, "H\x00\x01\x0a\x00\x00\x41\x00\x02"),
		"a handle for a block":    item(blockKey, h1Val),
		"a block elsewhere":       item("block/10.0.0.0-26", val),
		"a block of a greater":    item("block/10.0.0.0-24", val),
		"a block of an address":   item("block/10.0.0.65-26", val),
		"a block by its text":     item("block/10.0.0.64/26", val),
		"a block cut off":         item(blockKey, val[:len(val)-1]),
		"a block too long":        item(blockKey, val+"\x00"),
		"a block for a pool":      item("pool/10.0.0.64-26", val),
		"a pool for a block":      item(blockKey, "P\x0a\x00\x00\x40\x1a\x01"),
		"a pool elsewhere":        item("pool/10.0.1.0-24", poolVal),
		"a pool of other bits":    item("pool/10.0.0.0-25", poolVal),
		"a pool of fewer bits":    item("pool/10.0.0.0-23", poolVal),
		"too great a pool":        item("pool/10.0.0.0-15", "P\x0a\x00\x00\x00\x0f\x01"),
		"too small a pool":        item("pool/10.0.0.0-27", "P\x0a\x00\x00\x00\x1b\x01"),
		"a pool's net":            item("pool/10.0.0.1-24", poolVal),
		"a pool open and closed":  item(poolKey, poolVal[:6]+"\x02"),
		"a pool cut off":          item(poolKey, poolVal[:6]),
		"a pool without a value":  item(poolKey, ""),
		"the net of nothing":      item("pool/0.0.0.0-0", ""),
		"the net of all":          item("pool/0.0.0.0-0", "P\x00\x00\x00\x00\x00\x01"),
		"the block of nothing":    item("block/0.0.0.0-26", ""),
	}
}

// P18.1: ErrForm of what is no record, wherever it stands among others.
func TestWrongItems(t *testing.T) {
	chance := rand.New(rand.NewSource(19))
	for what, it := range wrongItems() {
		wantForm(t, what, []kv.Item{it})
		for range 5 {
			l, _ := world(chance)
			l = slices.DeleteFunc(l, func(x kv.Item) bool { return x.Key == it.Key })
			wantForm(t, what, slices.Insert(l, chance.Intn(len(l)+1), it))
		}
	}
}

// P18.1: ErrForm, if two have one key, whether they say the same or not.
func TestTwice(t *testing.T) {
	chance := rand.New(rand.NewSource(20))
	for range 40 {
		l, _ := world(chance)
		for _, it := range l {
			wantForm(t, "twice "+it.Key, slices.Insert(slices.Clone(l), chance.Intn(len(l)+1), it))
		}
	}
	a, _ := block.New(base+64, "n1")
	b, _ := block.New(base+64, "n2")
	for _, l := range [][]kv.Item{
		{item("node/n1", "N\x00"), item("node/n1", "N\x01")},
		{item(affKey, "A\x01"), item("node/n1", "N\x00"), item(affKey, "A\x02")},
		{item(h1Key, h1Val), item(h1Key, "H\x00\x00")},
		{item(poolKey, poolVal), item(poolKey, poolVal[:6]+"\x00")},
		{blockItem(a), blockItem(b)},
		{item("lock", "L"), item("lock", "L")},
	} {
		wantForm(t, "twice, but not the same", l)
	}
}

// around tells addresses at the edges of what v has, and any others.
func around(chance *rand.Rand, v view.View) []uint32 {
	l := []uint32{0, 1, 1<<32 - 1, base - 1, base}
	for _, b := range v.Blocks {
		l = append(l, b.Addr-1, b.Addr, b.Addr+uint32(chance.Intn(64)), b.Addr+63, b.Addr+64)
	}
	for _, p := range v.Pools {
		l = append(l, p.Net.Addr-1, p.Net.Addr, p.Net.Addr+uint32(1)<<(32-p.Net.Bits)-1, p.Net.Addr+uint32(1)<<(32-p.Net.Bits))
	}
	return l
}

// P18.2: the block and the pool of an address, held against all there are.
func TestBlockAndPool(t *testing.T) {
	chance := rand.New(rand.NewSource(21))
	for range 200 {
		_, v := world(chance)
		for _, a := range around(chance, v) {
			var want block.Block
			there := false
			for _, b := range v.Blocks {
				if a-b.Addr < 64 {
					want, there = b, true
				}
			}
			if b, ok := v.Block(a); ok != there || !block.Same(b, want) {
				t.Errorf("Block(%d): %v, %v; want %v, %v", a, b, ok, want, there)
			}
			var pool recs.Pool
			there = false
			for _, p := range v.Pools {
				if !there && uint64(a-p.Net.Addr) < uint64(1)<<(32-p.Net.Bits) {
					pool, there = p, true
				}
			}
			if p, ok := v.PoolOf(a); ok != there || p != pool {
				t.Errorf("PoolOf(%d): %v, %v; want %v, %v", a, p, ok, pool, there)
			}
		}
	}
}

// P18.2: of several the first one.
func TestFirst(t *testing.T) {
	a, _ := block.New(base, "n1")
	b, _ := block.New(base, "n2")
	c, _ := block.New(base+64, "n3")
	p, q := recs.Pool{Net: cidr.Net{Addr: base, Bits: 24}}, recs.Pool{Net: cidr.Net{Addr: base, Bits: 16}, Open: true}
	for _, x := range []struct {
		v view.View
		b block.Block
		p recs.Pool
	}{
		{view.View{Blocks: []block.Block{c, a, b}, Pools: []recs.Pool{p, q}}, a, p},
		{view.View{Blocks: []block.Block{b, c, a}, Pools: []recs.Pool{q, p}}, b, q},
	} {
		if got, ok := x.v.Block(base + 63); !ok || !block.Same(got, x.b) {
			t.Errorf("Block: %v, %v; want %v", got, ok, x.b)
		}
		if got, ok := x.v.PoolOf(base + 255); !ok || got != x.p {
			t.Errorf("PoolOf: %v, %v; want %v", got, ok, x.p)
		}
		if got, ok := x.v.PoolOf(base + 256); !ok || got != q {
			t.Errorf("PoolOf: %v, %v; want %v", got, ok, q)
		}
		if got, ok := x.v.PoolOf(base + 1<<16); ok || got != (recs.Pool{}) {
			t.Errorf("PoolOf: %v, %v", got, ok)
		}
		if got, ok := x.v.Block(base + 128); ok || !block.Same(got, block.Block{}) {
			t.Errorf("Block: %v, %v", got, ok)
		}
	}
}

// P18.2: each address that is given, and under what; what open pools have, less these.
func TestGivenAndFree(t *testing.T) {
	chance := rand.New(rand.NewSource(22))
	for range 200 {
		l, v := world(chance)
		want := map[uint32]block.Attr{}
		free := 0
		for a := range uint32(64 * 70) {
			for _, b := range v.Blocks {
				if x, ok := b.Of(base + a); ok {
					want[base+a] = x
				}
			}
		}
		for _, p := range v.Pools {
			for i := range uint32(1) << (32 - p.Net.Bits) {
				if _, given := want[p.Net.Addr+i]; p.Open && !given {
					free++
				}
			}
		}
		got, e := view.Of(l)
		if g := got.Given(); e != api.OK || !maps.Equal(g, want) {
			t.Fatalf("Given of %v: %v; want %v", v, g, want)
		}
		if got.Free() != free || v.Free() != free {
			t.Fatalf("Free of %v: %d; want %d", v, got.Free(), free)
		}
	}
}

// P18.2: of two blocks that give one address the later one's attribute; addresses that one alone gives stay.
func TestGivenTwice(t *testing.T) {
	a, _ := block.New(base, "n1")
	b := a
	a, _, _ = block.Assign(a, 3, attr("h1", "n1"))
	b, _ = block.AssignAt(b, base+1, attr("h2", "n2"))
	b, _ = block.AssignAt(b, base+9, attr("h2", "n2"))
	x, y := attr("h1", "n1"), attr("h2", "n2")
	for _, c := range []struct {
		l    []block.Block
		want map[uint32]block.Attr
	}{
		{[]block.Block{a, b}, map[uint32]block.Attr{base: x, base + 1: y, base + 2: x, base + 9: y}},
		{[]block.Block{b, a}, map[uint32]block.Attr{base: x, base + 1: x, base + 2: x, base + 9: y}},
	} {
		v := view.View{Blocks: c.l, Pools: []recs.Pool{{Net: cidr.Net{Addr: base, Bits: 26}, Open: true}}}
		if !maps.Equal(v.Given(), c.want) || v.Free() != 60 {
			t.Errorf("Given: %v, Free: %d; want %v", v.Given(), v.Free(), c.want)
		}
	}
}

// P18.2: pools that meet are counted each; what is given outside of all, or in a closed one, is not.
func TestFreeOfPools(t *testing.T) {
	low, _ := block.New(base-64, "n1")
	low, _, _ = block.Assign(low, 64, attr("h1", "n1"))
	in, _ := block.New(base+64, "n1")
	in, _, _ = block.Assign(in, 10, attr("h1", "n1"))
	top, _ := block.New(1<<32-64, "n1")
	top, _, _ = block.Assign(top, 64, attr("h1", "n1"))
	pool := func(a uint32, bits int, open bool) recs.Pool {
		return recs.Pool{Net: cidr.Net{Addr: a, Bits: bits}, Open: open}
	}
	for _, x := range []struct {
		l    []recs.Pool
		want int
	}{
		{nil, 0},
		{[]recs.Pool{pool(base, 26, true)}, 64},
		{[]recs.Pool{pool(base, 25, true)}, 118},
		{[]recs.Pool{pool(base, 25, false)}, 0},
		{[]recs.Pool{pool(base, 25, true), pool(base, 24, true)}, 118 + 246},
		{[]recs.Pool{pool(base, 25, true), pool(base, 24, false)}, 118},
		{[]recs.Pool{pool(base, 25, true), pool(base, 25, true)}, 236},
		{[]recs.Pool{pool(base-64, 26, true)}, 0},
		{[]recs.Pool{pool(1<<32-64, 26, true)}, 0},
		{[]recs.Pool{pool(0xffff0000, 16, true), pool(base, 16, true)}, 2<<16 - 74},
		{[]recs.Pool{pool(0, 0, true)}, 1<<32 - 138},
		{[]recs.Pool{pool(base+70, 32, true), pool(base+80, 32, true)}, 1},
	} {
		v := view.View{Pools: x.l, Blocks: []block.Block{top, in, low}}
		if v.Free() != x.want {
			t.Errorf("Free of %v: %d; want %d", x.l, v.Free(), x.want)
		}
	}
}

// Example 1 of the chapter.
func TestExample(t *testing.T) {
	v, e := view.Of([]kv.Item{poolItem(recs.Pool{Net: cidr.Net{Addr: base, Bits: 26}, Open: true})})
	if e != api.OK || v.Free() != 64 || len(v.Given()) != 0 {
		t.Error("an open pool alone has free", v.Free(), e)
	}
}

// P1: views made by hand, of things that are not right.
func TestByHand(t *testing.T) {
	right, _ := block.New(base, "n1")
	right, _, _ = block.Assign(right, 3, attr("h1", "n1"))
	short := right
	short.Attrs = nil
	wild := block.Block{Addr: base + 5, Aff: "a b", Free: []uint8{200, 200}, Attrs: make([]block.Attr, 300)}
	for i := range wild.Slots {
		wild.Slots[i] = uint8(200 + i)
	}
	var pools []recs.Pool
	for _, bits := range []int{-1, math.MinInt, math.MaxInt, 33, 64, 24} {
		pools = append(pools, recs.Pool{Net: cidr.Net{Addr: base + 1, Bits: bits}, Open: true})
	}
	v := view.View{Pools: pools, Blocks: []block.Block{wild, short, {}, {Addr: 1<<32 - 1}}}
	if len(v.Given()) != 0 || v.Free() != 0 {
		t.Error("of what is not right there is", v.Given(), v.Free())
	}
	for _, a := range []uint32{0, base + 1, base + 5, 1<<32 - 1} {
		if p, ok := v.PoolOf(a); ok || p != (recs.Pool{}) {
			t.Errorf("PoolOf(%d): %v, %v", a, p, ok)
		}
		v.Block(a)
	}
	if b, ok := v.Block(base + 63); !ok || !block.Same(b, short) {
		t.Error("Block of one that is not right", b, ok)
	}
	v.Blocks = append(v.Blocks, right)
	if want := map[uint32]block.Attr{base: attr("h1", "n1"), base + 1: attr("h1", "n1"), base + 2: attr("h1", "n1")}; !maps.Equal(v.Given(), want) || v.Free() != 0 {
		t.Error("Given, Free", v.Given(), v.Free())
	}
	zero := view.View{}
	if b, ok := zero.Block(0); ok || !block.Same(b, block.Block{}) || len(zero.Given()) != 0 || zero.Free() != 0 {
		t.Error("of the zero View", b, ok)
	}
}

// P18.1, P18.2: what is written into what is told is seen in nothing that is told later.
func TestNothingShared(t *testing.T) {
	l, want := world(rand.New(rand.NewSource(23)))
	v, _ := view.Of(l)
	for _, w := range want.Blocks {
		b, _ := v.Block(w.Addr)
		for i := range b.Free {
			b.Free[i] = 77
		}
		for i := range b.Attrs {
			b.Attrs[i] = attr("x", "y")
		}
		_, _ = append(b.Free, 78), append(b.Attrs, attr("z", "z"))
	}
	clear(v.Given())
	v.Given()[base] = attr("x", "y")
	v.Free()
	v.PoolOf(base)
	if !same(v, want) {
		t.Errorf("the view has changed: %v; want %v", v, want)
	}
	for i := range v.Blocks {
		clear(v.Blocks[i].Free)
		clear(v.Blocks[i].Attrs)
	}
	clear(v.Pools)
	clear(v.Affs)
	for _, h := range v.Handles {
		clear(h.Counts)
	}
	clear(v.Handles)
	clear(v.Nodes)
	if v, e := view.Of(l); e != api.OK || !same(v, want) {
		t.Errorf("Of tells another view: %v, %d; want %v", v, e, want)
	}
	kept, _ := view.Of(l)
	clear(l)
	if !same(kept, want) {
		t.Error("what was handed in is kept")
	}
}

// P18.1: each value, with any one byte another one, is read as what it says then, or refused.
func TestSpoilt(t *testing.T) {
	b := anyBlock(rand.New(rand.NewSource(24)), base+64)
	val, _ := image.Put(b)
	read := map[string]func(s string) bool{
		poolKey: func(s string) bool {
			p, e := recs.ReadPool(s)
			return e == api.OK && p.Net == cidr.Net{Addr: base, Bits: 24}
		},
		blockKey: func(s string) bool {
			c, e := image.Read(s)
			return e == api.OK && c.Addr == base+64
		},
		affKey: func(s string) bool {
			_, e := recs.ReadAff(s)
			return e == api.OK
		},
		h1Key: func(s string) bool {
			_, e := handle.Read(s)
			return e == api.OK
		},
		"node/n1": func(s string) bool {
			_, e := recs.ReadNode(s)
			return e == api.OK
		},
		"lock": func(s string) bool { return s == "L" },
	}
	for key, s := range map[string]string{poolKey: poolVal, blockKey: val, affKey: "A\x02", h1Key: h1Val, "node/n1": "N\x00", "lock": "L"} {
		for i := range len(s) {
			for c := range 256 {
				x := s[:i] + string([]byte{byte(c)}) + s[i+1:]
				v, e := view.Of([]kv.Item{item(key, x)})
				if (e == api.OK) != read[key](x) || e != api.OK && (e != api.ErrForm || !isZero(v)) {
					t.Fatalf("Of %q, %q: %v, %d", key, x, v, e)
				}
			}
		}
	}
}
