package among

import (
	"hash/fnv"
	"maps"
	"slices"

	"virgate/api"
	"virgate/auto"
	"virgate/block"
	"virgate/drop"
	"virgate/image"
	"virgate/kv"
	"virgate/names"
	"virgate/recs"
)

// isMeant tells whether an address that is given under a is one of those that are meant.
func isMeant(w drop.What, addr uint32, a block.Attr) bool {
	switch w.Kind {
	case drop.List:
		return slices.Contains(w.L, addr)
	case drop.Handle:
		return a.Handle == w.ID
	case drop.Nodes:
		return slices.Contains(w.Nodes, a.Node)
	}
	return false
}

// meantByWords tells what is meant of b, in the order in which it is freed.
func meantByWords(b block.Block, w drop.What) []uint32 {
	l := b.Given()
	if w.Kind == drop.List {
		l = w.L
	}
	if w.Kind == drop.Nodes {
		l = nil
		for _, node := range w.Nodes {
			l = append(l, ofNode(b, node)...)
		}
	}
	var meant []uint32
	for _, addr := range l {
		if a, is := b.Of(addr); is && isMeant(w, addr, a) && !slices.Contains(meant, addr) {
			meant = append(meant, addr)
		}
	}
	return meant
}

// ofNode tells what of b is given for node, by the addresses.
func ofNode(b block.Block, node string) []uint32 {
	return slices.DeleteFunc(b.Given(), func(addr uint32) bool {
		a, _ := b.Of(addr)
		return a.Node != node
	})
}

// dropByWords is chapter 23.
func dropByWords(ask asker, addr uint32, w drop.What) ([]uint32, api.Errno) {
	key := "block/" + netOf(addr)
	var ahead, b block.Block
	var l []uint32
	var rev int64
	e := tries(func() api.Errno {
		r := ask(get(key))
		l = nil
		if there, e := isThere(r); !there {
			return e
		}
		var e api.Errno
		if ahead, e = image.Read(r.Val); e != api.OK {
			return api.ErrForm
		}
		if l = meantByWords(ahead, w); len(l) == 0 {
			return api.OK
		}
		b, _, _ = block.Release(ahead, l)
		r = ask(update(key, put(b), r.Rev))
		if rev = r.Rev; r.Code != api.OK {
			return again
		}
		return api.OK
	})
	if e != api.OK || len(l) == 0 {
		return nil, e
	}
	if len(b.Free) == 64 && b.Aff == "" {
		ask(remove(key, rev))
	}
	had, has := perHandle(ahead), perHandle(b)
	for _, h := range slices.Sorted(maps.Keys(had)) {
		if n := had[h] - has[h]; n > 0 {
			backByWords(ask, h, addr, n)
		}
	}
	return l, api.OK
}

// inTurn tells all blocks of a pool, in which turn node asks for them.
func inTurn(p recs.Pool, node string) []uint32 {
	h := fnv.New64a()
	h.Write([]byte(node))
	var l []uint32
	n := uint64(1) << (26 - p.Net.Bits)
	for k := range n {
		l = append(l, p.Net.Addr+64*uint32((h.Sum64()%n+k)%n))
	}
	return l
}

// hasPool tells whether one of the pools has addr.
func hasPool(l []recs.Pool, addr uint32) bool {
	return slices.ContainsFunc(l, func(p recs.Pool) bool { return addr>>(32-p.Net.Bits) == p.Net.Addr>>(32-p.Net.Bits) })
}

// listed tells what there is by a List; where that is refused, nothing.
func listed(ask asker, start string) []kv.Item {
	r := ask(list(start))
	if r.Code != api.OK {
		return nil
	}
	return r.Items
}

// openPools tells those of the pools that are open.
func openPools(items []kv.Item) []recs.Pool {
	var l []recs.Pool
	for _, it := range items {
		if p, e := recs.ReadPool(it.Val); e == api.OK && p.Open {
			l = append(l, p)
		}
	}
	return l
}

// enough is thrown where as many were given as are wanted.
type enough struct{}

// autoByWords is chapter 24.
func autoByWords(ask asker, w auto.Want) (l []uint32, e api.Errno) {
	defer func() {
		if x := recover(); x != nil && x != (enough{}) {
			panic(x)
		}
	}()
	node := w.Attr.Node
	if r := ask(get("node/" + node)); r.Code != api.OK || r.Val != present {
		return nil, api.ErrState
	}
	pools := openPools(listed(ask, "pool/"))
	if len(pools) == 0 {
		return nil, api.ErrNone
	}
	give := func(addr uint32, own string) {
		some, _ := grabByWords(ask, addr, want{N: min(w.N-len(l), 64), Attr: w.Attr, Own: own})
		if l = append(l, some...); len(l) == w.N {
			panic(enough{})
		}
	}
	tried := map[uint32]bool{}
	for _, it := range listed(ask, "aff/"+node+"/") {
		_, addr, is := names.OfAff(it.Key)
		if is && it.Val == confirmed && hasPool(pools, addr) {
			tried[addr] = true
			give(addr, node)
		}
	}
	for _, addr := range mayClaim(listed(ask, "block/"), pools, node) {
		if !tried[addr] && claimByWords(ask, node, addr) == api.OK {
			give(addr, node)
		}
	}
	if w.Borrow {
		for _, it := range listed(ask, "block/") {
			addr, is := names.OfBlock(it.Key)
			b, e := image.Read(it.Val)
			if is && e == api.OK && hasPool(pools, addr) && b.Aff != node && len(b.Given()) < 64 {
				give(addr, "")
			}
		}
	}
	if len(l) == 0 {
		return nil, api.ErrFull
	}
	return l, api.OK
}

// mayClaim tells which blocks of the pools are not there, or are nobody's, or the node's, in turn.
func mayClaim(blocks []kv.Item, pools []recs.Pool, node string) []uint32 {
	vals := map[string]string{}
	for _, it := range blocks {
		vals[it.Key] = it.Val
	}
	var l []uint32
	for _, p := range pools {
		for _, addr := range inTurn(p, node) {
			val, there := vals["block/"+netOf(addr)]
			b, e := image.Read(val)
			if !there || e == api.OK && (b.Aff == "" || b.Aff == node) {
				l = append(l, addr)
			}
		}
	}
	return l
}

// tidyByWords is step 4 of chapter 29, of one block: it goes, if it is nobody's, and nothing of it is given.
func tidyByWords(ask asker, addr uint32) {
	key := "block/" + netOf(addr)
	r := ask(get(key))
	if b, e := image.Read(r.Val); e == api.OK && b.Aff == "" && b.Empty() {
		ask(remove(key, r.Rev))
	}
}
