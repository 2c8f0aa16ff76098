package among

import (
	"maps"
	"slices"
	"strings"
	"testing"

	"virgate/admin"
	"virgate/api"
	"virgate/auto"
	"virgate/block"
	"virgate/byhand"
	"virgate/cidr"
	"virgate/claim"
	"virgate/drop"
	"virgate/exact"
	"virgate/free"
	"virgate/gc"
	"virgate/grab"
	"virgate/handle"
	"virgate/image"
	"virgate/kv"
	"virgate/leave"
	"virgate/mach"
	"virgate/names"
	"virgate/recs"
	"virgate/view"
)

// items is what a state has, by the keys; of what may be written anew the revision is 0.
type items map[string]kv.Item

func itemsOf(s *kv.State) items {
	m := items{}
	for _, it := range s.All() {
		m[it.Key] = it
	}
	return m
}

// write lets key have val, at whatever revision, if it does not have that already.
func (m items) write(key, val string) {
	if it, has := m[key]; !has || it.Val != val {
		m[key] = kv.Item{Key: key, Val: val}
	}
}

// touch lets key have what it has, if it has that, at whatever revision.
func (m items) touch(key string) {
	if it, has := m[key]; has {
		it.Rev = 0
		m[key] = it
	}
}

// is tells whether s has just these.
func (m items) is(s *kv.State) bool {
	return maps.EqualFunc(m, itemsOf(s), func(a, b kv.Item) bool {
		if a.Rev == 0 {
			b.Rev = 0
		}
		return a == b
	})
}

// wantLeft holds what node does to s that leaves alone.
func wantLeft(t *testing.T, s *kv.State, node, story string) {
	t.Helper()
	aff := "aff/" + node + "/10.0.0.0-26"
	want := itemsOf(s)
	if _, has := want[aff]; has {
		delete(want, aff)
		want.letGo(node)
	}
	var ends []api.Errno
	p := mach.New()
	leave.Go(p, node, base+17, func(e api.Errno) { ends = append(ends, e) })
	if done := mach.Run(p, s.Do, 6); !done || !slices.Equal(ends, []api.Errno{api.OK}) || !want.is(s) {
		t.Fatalf("%s leaves alone behind %q: ended %v, %v; left %#v; want %#v", node, story, done, ends, s.All(), want)
	}
}

// letGo lets the block be nobody's, if it is node's, or not be there, if nothing of it is given.
func (m items) letGo(node string) {
	b, e := image.Read(m[blkKey].Val)
	if e != api.OK || b.Aff != node {
		return
	}
	if len(b.Given()) == 0 {
		delete(m, blkKey)
		return
	}
	b.Aff = ""
	m.write(blkKey, put(b))
}

// wantClaimed holds what node does to s that claims the block of addr alone, and tells what that ends with.
func wantClaimed(t *testing.T, s *kv.State, node string, addr uint32, story string) api.Errno {
	t.Helper()
	aff, blk := "aff/"+node+"/"+netOf(addr), "block/"+netOf(addr)
	v, _ := view.Of(s.All())
	b, there := v.Block(addr)
	isGone, known := v.Nodes[node]
	pool, lies := v.PoolOf(addr)
	want, e := itemsOf(s), api.OK
	switch {
	case !lies || !pool.Open:
		e = api.ErrNone
	case !known || isGone:
		e = api.ErrState
	case there && b.Aff != "" && b.Aff != node:
		e = api.ErrTaken
		delete(want, aff)
	case want[aff].Val != confirmed:
		if !there {
			b, _ = block.New(addr, node)
		}
		b.Aff = node
		want.write(blk, put(b))
		want.touch(blk)
		want.write(aff, confirmed)
	}
	var ends []api.Errno
	p := mach.New()
	claim.Go(p, node, addr, func(e api.Errno) { ends = append(ends, e) })
	if done := mach.Run(p, s.Do, 5+6); !done || !slices.Equal(ends, []api.Errno{e}) || !want.is(s) {
		t.Fatalf("%s claims alone behind %q: ended %v, %v; left %#v; want %#v", node, story, done, ends, s.All(), want)
	}
	return e
}

// wantGrabbed holds what a want of the block of addr does to s alone, and tells what that ends with.
func wantGrabbed(t *testing.T, s *kv.State, addr uint32, w want, story string) ending {
	t.Helper()
	v, _ := view.Of(s.All())
	b, there := v.Block(addr)
	want, given := itemsOf(s), v.Given()
	free, e := mayGrab(b, there, w)
	key := "handle/" + w.Attr.Handle
	want.touch(key)
	if e == api.OK {
		h, _ := handle.Add(v.Handles[w.Attr.Handle], addr, len(free))
		val, _ := handle.Put(h)
		want.write(key, val)
		for _, addr := range free {
			given[addr] = w.Attr
		}
	}
	var ends []ending
	p := mach.New()
	grab.Go(p, addr, w, func(l []uint32, e api.Errno) { ends = append(ends, ending{l, e}) })
	done := mach.Run(p, s.Do, 4+2)
	after, _ := view.Of(s.All())
	if now, _ := after.Block(addr); e == api.OK && now.Aff == b.Aff {
		// What else the block has then is held by what is given.
		want.write("block/"+netOf(addr), put(now))
	}
	end := ending{free, e}
	if !done || !slices.EqualFunc(ends, []ending{end}, ending.is) || !maps.Equal(after.Given(), given) || !want.is(s) {
		t.Fatalf("%+v alone behind %q: ended %v, %v; left %#v; want %v, %#v", w, story, done, ends, s.All(), end, want)
	}
	return end
}

// mayGrab tells what of b a want is given alone, or why nothing is.
func mayGrab(b block.Block, there bool, w want) ([]uint32, api.Errno) {
	if !there {
		return nil, api.ErrNone
	}
	if w.Own != "" && b.Aff != w.Own {
		return nil, api.ErrTaken
	}
	l := freeOf(b, w)
	if len(l) > 0 {
		return l, api.OK
	}
	if w.One {
		return nil, api.ErrTaken
	}
	return nil, api.ErrFull
}

// freeOf tells what of b is wanted, and free.
func freeOf(b block.Block, w want) []uint32 {
	var l []uint32
	for _, i := range b.Free {
		addr := b.Addr + uint32(i)
		if w.One && addr == w.At || !w.One && len(l) < w.N {
			l = append(l, addr)
		}
	}
	return l
}

// wantDropped holds what dropping w of the block of addr alone does to s, and tells what is freed.
func wantDropped(t *testing.T, s *kv.State, addr uint32, w drop.What, story string) []uint32 {
	t.Helper()
	v, _ := view.Of(s.All())
	b, _ := v.Block(addr)
	want, l := itemsOf(s), meantByWords(b, w)
	if len(l) > 0 {
		want.free(v, b, l)
	}
	var told []uint32
	var ends []api.Errno
	p := mach.New()
	drop.Go(p, addr, w, func(l []uint32, e api.Errno) { told, ends = l, append(ends, e) })
	done := mach.Run(p, s.Do, 3+2*len(perHandle(b)))
	if !done || !slices.Equal(ends, []api.Errno{api.OK}) || !slices.Equal(told, l) || !want.is(s) {
		t.Fatalf("%+v is dropped alone behind %q: ended %v, %v with %v; left %#v; want %v, %#v", w, story, done, ends, told, s.All(), l, want)
	}
	return l
}

// free lets l, all of which are given in b, not be given any more, nor counted.
func (m items) free(v view.View, b block.Block, l []uint32) {
	had := perHandle(b)
	b, _, _ = block.Release(b, l)
	blk := "block/" + netOf(b.Addr)
	m.write(blk, put(b))
	if len(b.Free) == 64 && b.Aff == "" {
		delete(m, blk)
	}
	has := perHandle(b)
	for id, h := range v.Handles {
		if had[id] == has[id] {
			continue
		}
		key := "handle/" + id
		h, _ = handle.Set(h, b.Addr, max(h.Of(b.Addr)-had[id]+has[id], 0))
		val, _ := handle.Put(h)
		m.write(key, val)
		m.touch(key)
		if h.Total() == 0 {
			delete(m, key)
		}
	}
}

// wantGivenOne holds what giving just addr alone does to s: what claiming does, and behind that, if the block is the node's then, or somebody else's, grabbing.
func wantGivenOne(t *testing.T, s *kv.State, a block.Attr, addr uint32, story string) {
	t.Helper()
	want := copied(s)
	end := ending{nil, wantClaimed(t, want, a.Node, addr, story)}
	if end.e == api.OK || end.e == api.ErrTaken {
		end = wantGrabbed(t, want, addr, grab.Want{One: true, At: addr, Attr: a}, story)
	}
	var ends []ending
	p := mach.New()
	exact.Go(p, a, addr, func(l []uint32, e api.Errno) { ends = append(ends, ending{l, e}) })
	if done := mach.Run(p, s.Do, 5+6+4+2); !done || !slices.EqualFunc(ends, []ending{end}, ending.is) || !kv.Same(s, want) {
		t.Fatalf("%d is given alone under %v behind %q: ended %v, %v; left %#v; want %v, %#v", addr, a, story, done, ends, s.All(), end, want.All())
	}
}

// wantFreed holds what freeing l alone does to s: of each block, one behind the other, what dropping does.
func wantFreed(t *testing.T, s *kv.State, l []uint32, story string) {
	t.Helper()
	want, end := copied(s), ending{}
	for k := range slices.Max(l)/64 - base/64 + 2 {
		addr := base + 64*(k-1)
		if slices.ContainsFunc(l, func(a uint32) bool { return a/64 == addr/64 }) {
			end.l = append(end.l, wantDropped(t, want, addr, drop.What{Kind: drop.List, L: l}, story)...)
		}
	}
	var ends []ending
	p := mach.New()
	free.Go(p, l, func(l []uint32, e api.Errno) { ends = append(ends, ending{l, e}) })
	if done := mach.Run(p, s.Do, 9999); !done || !slices.EqualFunc(ends, []ending{end}, ending.is) || !kv.Same(s, want) {
		t.Fatalf("%v is freed alone behind %q: ended %v, %v; left %#v; want %v, %#v", l, story, done, ends, s.All(), end, want.All())
	}
}

// wantByHand holds all that is done by hand, with whatever handle, pool or node, each alone behind s.
func wantByHand(t *testing.T, s *kv.State, story string) {
	t.Helper()
	for _, id := range []string{"h1", "h2", "h3", "h"} {
		c := copied(s)
		wantLookedUp(t, c, id, story)
		wantHandleFreed(t, c, id, story)
		wantLookedUp(t, c, id, story)
	}
	for _, n := range []cidr.Net{pool24, pool23, nextNet, farNet} {
		c := copied(s)
		wantPoolAdded(t, c, n, story)
		wantPoolDropped(t, c, n, story)
		wantPoolSet(t, c, n, true, story)
		wantPoolDropped(t, c, n, story)
		wantPoolSet(t, c, n, false, story)
		wantPoolDropped(t, c, n, story)
		wantPoolAdded(t, c, n, story)
	}
	for _, name := range []string{"n1", "n3", "n4", "n5"} {
		c := copied(s)
		wantNodeDropped(t, c, name, story)
		wantNodeAdded(t, c, name, story)
		wantNodeDropped(t, c, name, story)
		wantNodeAdded(t, c, name, story)
	}
}

// wantHandleFreed holds what freeing a handle alone does to s: of each block that it counts, one behind the other, what dropping does.
func wantHandleFreed(t *testing.T, s *kv.State, id, story string) {
	t.Helper()
	v, _ := view.Of(s.All())
	want, end := copied(s), ending{nil, api.ErrNone}
	if h, there := v.Handles[id]; there {
		end.e = api.OK
		for _, c := range h.Counts {
			end.l = append(end.l, wantDropped(t, want, c.Block, drop.What{Kind: drop.Handle, ID: id}, story)...)
		}
	}
	var ends []ending
	p := mach.New()
	byhand.Go(p, id, func(l []uint32, e api.Errno) { ends = append(ends, ending{l, e}) })
	if done := mach.Run(p, s.Do, 9999); !done || !slices.EqualFunc(ends, []ending{end}, ending.is) || !kv.Same(s, want) {
		t.Fatalf("%s is freed alone behind %q: ended %v, %v; left %#v; want %v, %#v", id, story, done, ends, s.All(), end, want.All())
	}
}

// wantLookedUp holds what is told of a handle alone, and that nothing changes: what is given under it, in blocks that it counts.
func wantLookedUp(t *testing.T, s *kv.State, id, story string) {
	t.Helper()
	v, _ := view.Of(s.All())
	want, end := copied(s), ending{nil, api.ErrNone}
	if h, there := v.Handles[id]; there {
		end.e = api.OK
		given := v.Given()
		for _, addr := range slices.Sorted(maps.Keys(given)) {
			if given[addr].Handle == id && h.Of(addr) > 0 {
				end.l = append(end.l, addr)
			}
		}
	}
	var ends []ending
	p := mach.New()
	byhand.Look(p, id, func(l []uint32, e api.Errno) { ends = append(ends, ending{l, e}) })
	if done := mach.Run(p, s.Do, 9999); !done || !slices.EqualFunc(ends, []ending{end}, ending.is) || !kv.Same(s, want) {
		t.Fatalf("%s is looked up alone behind %q: ended %v, %v; want %v", id, story, done, ends, end)
	}
}

// wantChanged holds that what f does alone ends with e, and leaves just that.
func wantChanged(t *testing.T, s *kv.State, want items, e api.Errno, what, story string, f func(p *mach.Proc, then func(e api.Errno))) {
	t.Helper()
	var ends []api.Errno
	p := mach.New()
	f(p, func(e api.Errno) { ends = append(ends, e) })
	if done := mach.Run(p, s.Do, 4); !done || !slices.Equal(ends, []api.Errno{e}) || !want.is(s) {
		t.Fatalf("to %s alone behind %q: ended %v, %v; left %#v; want %d, %#v", what, story, done, ends, s.All(), e, want)
	}
}

// wantPoolAdded holds what adding the pool n alone does to s: it comes just if it meets no other one.
func wantPoolAdded(t *testing.T, s *kv.State, n cidr.Net, story string) {
	t.Helper()
	v, _ := view.Of(s.All())
	want, e := itemsOf(s), api.ErrTaken
	want.write("lock", "L")
	want.touch("lock")
	if !slices.ContainsFunc(v.Pools, func(p recs.Pool) bool { return meet(p.Net, n) }) {
		e = api.OK
		want.write(poolKeyOf(n), poolVal(n, true))
	}
	wantChanged(t, s, want, e, "add "+cidr.Print(n), story, func(p *mach.Proc, then func(e api.Errno)) { admin.AddPool(p, n, then) })
}

// wantPoolSet holds what letting the pool n be open, or not, alone does to s.
func wantPoolSet(t *testing.T, s *kv.State, n cidr.Net, open bool, story string) {
	t.Helper()
	want, e := itemsOf(s), api.ErrNone
	if _, there := want[poolKeyOf(n)]; there {
		e = api.OK
		want.write(poolKeyOf(n), poolVal(n, open))
		want.touch(poolKeyOf(n))
	}
	wantChanged(t, s, want, e, "set "+cidr.Print(n), story, func(p *mach.Proc, then func(e api.Errno)) { admin.SetPool(p, n, open, then) })
}

// wantPoolDropped holds what dropping the pool n alone does to s: it goes just if it is there, not open, and no block, and no affinity lies in it.
func wantPoolDropped(t *testing.T, s *kv.State, n cidr.Net, story string) {
	t.Helper()
	want, e := itemsOf(s), api.OK
	it, there := want[poolKeyOf(n)]
	switch {
	case !there:
		e = api.ErrNone
	case it.Val == poolVal(n, true), anyIn(n, s.All()):
		e = api.ErrState
	default:
		delete(want, it.Key)
	}
	wantChanged(t, s, want, e, "drop "+cidr.Print(n), story, func(p *mach.Proc, then func(e api.Errno)) { admin.DropPool(p, n, then) })
}

// wantNodeAdded holds what adding a node alone does to s: it comes just if it never was there.
func wantNodeAdded(t *testing.T, s *kv.State, name, story string) {
	t.Helper()
	want, e := itemsOf(s), api.ErrThere
	if _, there := want["node/"+name]; !there {
		e = api.OK
		want.write("node/"+name, present)
	}
	wantChanged(t, s, want, e, "add "+name, story, func(p *mach.Proc, then func(e api.Errno)) { admin.AddNode(p, name, then) })
}

// wantNodeDropped holds what dropping a node alone does to s.
func wantNodeDropped(t *testing.T, s *kv.State, name, story string) {
	t.Helper()
	want, e := itemsOf(s), api.ErrNone
	if _, there := want["node/"+name]; there {
		e = api.OK
		want.write("node/"+name, gone)
	}
	wantChanged(t, s, want, e, "drop "+name, story, func(p *mach.Proc, then func(e api.Errno)) { admin.DropNode(p, name, then) })
}

// wantCollected holds what collecting alone does to s, in which all holds that must.
func wantCollected(t *testing.T, s *kv.State, story string) {
	t.Helper()
	v, _ := view.Of(s.All())
	want, l := itemsOf(s), []uint32(nil)
	hands := map[string]handle.Handle{}
	for _, it := range s.All() {
		addr, isBlock := names.OfBlock(it.Key)
		node, _, isAff := names.OfAff(it.Key)
		switch {
		case isAff && (it.Val != confirmed || v.Nodes[node]):
			delete(want, it.Key)
		case isBlock:
			b, some := want.collect(v, addr)
			l = append(l, some...)
			for id, n := range perHandle(b) {
				hands[id], _ = handle.Set(hands[id], addr, n)
			}
		}
	}
	for id := range v.Handles {
		if _, has := hands[id]; !has {
			delete(want, "handle/"+id)
		}
		want.touch("handle/" + id)
	}
	for id, h := range hands {
		want.write("handle/"+id, handleOfAll(h.Counts...))
	}
	var ends []ending
	p, n := mach.New(), s.Len()
	gc.Go(p, func(l []uint32, e api.Errno) { ends = append(ends, ending{l, e}) })
	end := ending{l, api.OK}
	if done := mach.Run(p, s.Do, gc.Bound(n)); !done || !slices.EqualFunc(ends, []ending{end}, ending.is) || !want.is(s) {
		t.Fatalf("collected alone behind %q: ended %v, %v; left %#v; want %v, %#v", story, done, ends, s.All(), end, want)
	}
}

// collect lets the block of addr be as it is behind collecting, by what was there ahead, and tells it, and what was freed of it.
func (m items) collect(v view.View, addr uint32) (block.Block, []uint32) {
	b, _ := v.Block(addr)
	key := "block/" + netOf(addr)
	if b.Aff != "" && (v.Nodes[b.Aff] || v.Affs[view.Aff{Node: b.Aff, Block: addr}] != recs.Confirmed) {
		b.Aff = ""
	}
	var l []uint32
	for _, node := range slices.Sorted(maps.Keys(v.Nodes)) {
		if v.Nodes[node] {
			l = append(l, ofNode(b, node)...)
		}
	}
	b, _, _ = block.Release(b, l)
	m.write(key, put(b))
	if b.Aff == "" && len(b.Free) == 64 {
		delete(m, key)
	}
	return b, l
}

// wantGiven holds what giving w alone does to s.
func wantGiven(t *testing.T, s *kv.State, w auto.Want, story string) {
	t.Helper()
	v, _ := view.Of(s.All())
	n, e := mayGive(v, w)
	given, counted := v.Given(), v.Handles[w.Attr.Handle]
	was := itemsOf(s)
	var told []uint32
	var ends []api.Errno
	p := mach.New()
	auto.Go(p, w, func(l []uint32, e api.Errno) { told, ends = l, append(ends, e) })
	done := mach.Run(p, s.Do, 9999)
	after, _ := view.Of(s.All())
	for _, addr := range told {
		given[addr] = w.Attr
		counted, _ = handle.Add(counted, addr, 1)
	}
	if !done || !slices.Equal(ends, []api.Errno{e}) || len(told) != n || !maps.Equal(after.Given(), given) || len(given) != len(v.Given())+n {
		t.Fatalf("%+v is given alone behind %q: ended %v, %v with %v; left %#v; want %d, %d", w, story, done, ends, told, s.All(), n, e)
	}
	is := itemsOf(s)
	was.given(is, w.Attr, counted)
	if x := wrong(after); !was.is(s) || wrong(v) == "" && x != "" {
		t.Fatalf("%+v is given alone behind %q: %s; left %#v; want %#v", w, story, x, s.All(), was)
	}
}

// given lets there be what is, of blocks and of affinities to these of the node that is Confirmed; the handle has what is counted.
func (m items) given(is items, a block.Attr, counted handle.Handle) {
	for key, it := range is {
		if strings.HasPrefix(key, "block/") || strings.HasPrefix(key, "aff/"+a.Node+"/") && it.Val == confirmed {
			m[key] = it
		}
	}
	key := "handle/" + a.Handle
	m.touch(key)
	if counted.Total() > 0 {
		val, _ := handle.Put(counted)
		m.write(key, val)
	}
}

// mayGive tells how many addresses are given alone, or why none are.
func mayGive(v view.View, w auto.Want) (int, api.Errno) {
	if isGone, known := v.Nodes[w.Attr.Node]; isGone || !known {
		return 0, api.ErrState
	}
	free, open := 0, false
	for _, p := range v.Pools {
		if !p.Open {
			continue
		}
		open = true
		for _, addr := range inTurn(p, w.Attr.Node) {
			b, there := v.Block(addr)
			if !there {
				free += 64
			} else if w.Borrow || b.Aff == "" || b.Aff == w.Attr.Node {
				free += len(b.Free)
			}
		}
	}
	if !open {
		return 0, api.ErrNone
	}
	if free == 0 {
		return 0, api.ErrFull
	}
	return min(free, w.N), api.OK
}

// others tells items of other things, which have nothing to do with the block.
func others() map[string]string {
	b, _ := block.New(base+64, "n1")
	b, _, _ = block.Assign(b, 3, attr("h1", "n1"))
	return map[string]string{
		"aff/n1/10.0.0.64-26":     confirmed,
		"aff/n1/9.255.255.192-26": pending,
		"block/10.0.0.64-26":      put(b),
		"handle/h":                "H\x00\x00",
		"handle/h11":              "H\x00\x01\x0a\x00\x00\x00\x00\x02",
		"lock":                    "L",
		"node/n":                  gone,
		"node/n11":                present,
		"pool/10.0.1.0-24":        "P\x0a\x00\x01\x00\x18\x01",
		"pool/9.255.0.0-16":       "P\x09\xff\x00\x00\x10\x00",
	}
}

// Alone it leaves, claims, grabs, however the affinity stands, and whatever the block is; all else stays as it is.
func TestAlone(t *testing.T) {
	for _, val := range []string{"", pending, confirmed, leaving} {
		for _, aff := range []string{"", "n1", "n2", "n11"} {
			for _, n := range []int{-1, 0, 1, 2, 3, 62, 63, 64} {
				affs := map[string]string{"n2": pending, "n11": leaving}
				if val != "" {
					affs["n1"] = val
				}
				blk := ""
				if n >= 0 {
					blk = blockOf(aff, n)
				}
				aloneIn(t, world(affs, blk))
			}
		}
	}
}

func aloneIn(t *testing.T, s *kv.State) {
	t.Helper()
	for _, key := range slices.Sorted(maps.Keys(others())) {
		s.Do(kv.Op{Kind: kv.Create, Key: key, Val: others()[key]})
	}
	if v, e := view.Of(s.All()); e != api.OK {
		t.Fatalf("there is what is no record: %#v", s.All())
	} else if wrong(v) == "" {
		for _, node := range []string{"n1", "n2", "n3", "n4", "n11"} {
			wantClaimed(t, copied(s), node, base+17, "nothing")
			for _, addr := range []uint32{base, base + 2, base + 63, base + 70, base + 256, base - 1} {
				wantGivenOne(t, copied(s), attr("h1", node), addr, "nothing")
			}
		}
		wantCollected(t, copied(s), "nothing")
	}
	for _, w := range []want{two, one, own, more} {
		wantGrabbed(t, copied(s), base+9, w, "nothing")
	}
	for _, w := range []drop.What{ofH1, ofH2, ofH3, few, first, ofN1, ofBoth, {}} {
		wantDropped(t, copied(s), base+9, w, "nothing")
	}
	for _, l := range [][]uint32{ofTwo, ofOne, {base + 63}, someOf(base-64, 400)} {
		wantFreed(t, copied(s), l, "nothing")
	}
	wantByHand(t, s, "nothing")
	for _, w := range []auto.Want{anyTwo, anyMany, anyAll, forGone, {Attr: attr("h", "n4"), N: 1}, {Attr: attr("h11", "n11"), N: 4096, Borrow: true}, {Attr: attr("h11", "n11"), N: 513}} {
		wantGiven(t, copied(s), w, "nothing")
	}
	for _, node := range []string{"n1", "n1", "n11", "n2", "n3"} {
		wantLeft(t, s, node, "nothing")
	}
}
