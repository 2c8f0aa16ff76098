// Package among has tests alone: what goes on step by step, held against the same as the chapters say it, and among others who take turns at one state.
package among

import (
	"fmt"
	"iter"
	"slices"

	"virgate/api"
	"virgate/block"
	"virgate/handle"
	"virgate/image"
	"virgate/kv"
	"virgate/mach"
	"virgate/recs"
)

// asker asks something, and tells what was told.
type asker func(o kv.Op) kv.Result

// diskGone is thrown where ErrLost is told.
type diskGone struct{}

// stepwise tells a procedure that does what f does, up to where ErrLost is told, and what stops it; end is called at the end.
func stepwise(f func(ask asker) ([]uint32, api.Errno), end func(l []uint32, e api.Errno)) (*mach.Proc, func()) {
	p, stopped := mach.New(), false
	var told kv.Result
	next, stop := iter.Pull(func(yield func(kv.Op) bool) {
		l, e := untilLost(f, func(o kv.Op) kv.Result {
			if stopped || !yield(o) {
				stopped = true
				return refused(api.ErrLost)
			}
			return told
		})
		if !stopped {
			end(l, e)
		}
	})
	var on func(r kv.Result)
	goOn := func() {
		if o, asks := next(); asks {
			p.Ask(o, on)
		}
	}
	on = func(r kv.Result) {
		told = r
		goOn()
	}
	goOn()
	return p, stop
}

// untilLost tells what f ends with, or ErrLost, as soon as that is told.
func untilLost(f func(ask asker) ([]uint32, api.Errno), ask asker) (l []uint32, e api.Errno) {
	defer func() {
		x := recover()
		if x == nil {
			return
		}
		if x != (diskGone{}) {
			panic(x)
		}
		l, e = nil, api.ErrLost
	}()
	return f(func(o kv.Op) kv.Result {
		r := ask(o)
		if r.Code == api.ErrLost {
			panic(diskGone{})
		}
		return r
	})
}

// again is no error that ends: it says that the next try begins.
const again = api.Errno(-1)

// tries does one try behind the other, up to one that ends.
func tries(try func() api.Errno) api.Errno {
	for range api.Retries {
		if e := try(); e != again {
			return e
		}
	}
	return api.ErrTired
}

// writes does o, and tells whether that was refused.
func writes(ask asker, o kv.Op) api.Errno {
	if ask(o).Code != api.OK {
		return again
	}
	return api.OK
}

// isThere tells of a Get whether the item is there, or again, if that was not told.
func isThere(r kv.Result) (bool, api.Errno) {
	if r.Code != api.OK && r.Code != api.ErrNone {
		return false, again
	}
	return r.Code == api.OK, api.OK
}

// netOf tells the net of a's block, as it stands in keys.
func netOf(a uint32) string {
	return fmt.Sprintf("%d.%d.%d.%d-26", a>>24, a>>16&255, a>>8&255, a&192)
}

// put tells the bytes of a block.
func put(b block.Block) string {
	s, e := image.Put(b)
	if e != api.OK {
		panic("a block that is not right")
	}
	return s
}

// leaveByWords is chapter 20.
func leaveByWords(ask asker, node string, addr uint32) api.Errno {
	aff, blk := "aff/"+node+"/"+netOf(addr), "block/"+netOf(addr)
	return tries(func() api.Errno {
		r := ask(get(aff))
		if r.Code == api.ErrNone {
			return api.OK
		}
		if r.Code != api.OK {
			return again
		}
		if !slices.Contains([]string{pending, confirmed, leaving}, r.Val) {
			return api.ErrForm
		}
		d := r.Rev
		if r.Val != leaving {
			if r = ask(update(aff, leaving, d)); r.Code != api.OK {
				return again
			}
			d = r.Rev
		}
		b := ask(get(blk))
		if r = ask(get(aff)); r.Code != api.OK || r.Rev != d {
			return api.ErrStale
		}
		if e := letGoByWords(ask, node, blk, b); e != api.OK {
			return e
		}
		if ask(remove(aff, d)).Code != api.OK {
			return api.ErrStale
		}
		return api.OK
	})
}

// letGoByWords is step 3 of leaving: of the block that was told.
func letGoByWords(ask asker, node, key string, told kv.Result) api.Errno {
	if there, e := isThere(told); !there {
		return e
	}
	b, e := image.Read(told.Val)
	if e != api.OK {
		return api.ErrForm
	}
	if b.Aff != node {
		return api.OK
	}
	if len(b.Given()) == 0 {
		return writes(ask, remove(key, told.Rev))
	}
	b.Aff = ""
	return writes(ask, update(key, put(b), told.Rev))
}

// claimByWords is chapter 21.
func claimByWords(ask asker, node string, addr uint32) api.Errno {
	wrote := false
	e := tries(func() api.Errno {
		pool, e := poolByWords(ask(list("pool/")), addr)
		if e != api.OK {
			return e
		}
		if e := nodeByWords(ask(get("node/" + node))); e != api.OK {
			return e
		}
		c, marked, e := markByWords(ask, pool, node, addr)
		if !marked {
			return e
		}
		wrote = true
		return takeByWords(ask, node, addr, c)
	})
	if e != api.OK && wrote {
		leaveByWords(ask, node, addr)
	}
	return e
}

// poolByWords is step 1 of claiming: the pool.
func poolByWords(told kv.Result, addr uint32) (kv.Item, api.Errno) {
	if told.Code != api.OK {
		return kv.Item{}, again
	}
	for _, it := range told.Items {
		p, e := recs.ReadPool(it.Val)
		if e != api.OK {
			return kv.Item{}, api.ErrForm
		}
		if low := 32 - p.Net.Bits; p.Open && addr>>low == p.Net.Addr>>low {
			return it, api.OK
		}
	}
	return kv.Item{}, api.ErrNone
}

// nodeByWords is step 2 of claiming.
func nodeByWords(told kv.Result) api.Errno {
	there, e := isThere(told)
	if e != api.OK {
		return e
	}
	if !there || told.Val == gone {
		return api.ErrState
	}
	if told.Val != present {
		return api.ErrForm
	}
	return api.OK
}

// markByWords is step 3 of claiming: the revision c, and true, or false, where that try, or all of it, ends.
func markByWords(ask asker, pool kv.Item, node string, addr uint32) (int64, bool, api.Errno) {
	aff, blk := "aff/"+node+"/"+netOf(addr), "block/"+netOf(addr)
	r := ask(get(aff))
	there, e := isThere(r)
	if e != api.OK {
		return 0, false, e
	}
	if !there {
		r = ask(kv.Op{Kind: kv.Create, Key: aff, Val: pending, If: pool.Key, IfRev: pool.Rev})
	} else if r.Val == confirmed {
		r = ask(get(blk))
		if r.Code != api.OK {
			return 0, false, again
		}
		b, e := image.Read(r.Val)
		if e == api.OK && b.Aff != node {
			e = again
		}
		return 0, false, e
	} else if r.Val == pending || r.Val == leaving {
		r = ask(update(aff, pending, r.Rev))
	} else {
		return 0, false, api.ErrForm
	}
	if r.Code != api.OK {
		return 0, false, again
	}
	return r.Rev, true, api.OK
}

// takeByWords is steps 4 and 5 of claiming.
func takeByWords(ask asker, node string, addr uint32, c int64) api.Errno {
	aff, blk := "aff/"+node+"/"+netOf(addr), "block/"+netOf(addr)
	r := ask(get(blk))
	there, e := isThere(r)
	if e != api.OK {
		return e
	}
	if there {
		b, e := image.Read(r.Val)
		if e != api.OK {
			return api.ErrForm
		}
		if b.Aff != "" && b.Aff != node {
			return api.ErrTaken
		}
		b.Aff = node
		e = writes(ask, kv.Op{Kind: kv.Update, Key: blk, Val: put(b), Rev: r.Rev, If: aff, IfRev: c})
		if e != api.OK {
			return e
		}
	} else {
		b, _ := block.New(addr, node)
		e = writes(ask, kv.Op{Kind: kv.Create, Key: blk, Val: put(b), If: aff, IfRev: c})
		if e != api.OK {
			return e
		}
	}
	return writes(ask, update(aff, confirmed, c))
}

// backByWords is what chapter 22 says of taking back.
func backByWords(ask asker, id string, addr uint32, n int) api.Errno {
	key := "handle/" + id
	return tries(func() api.Errno {
		r := ask(get(key))
		if there, e := isThere(r); !there {
			return e
		}
		h, e := handle.Read(r.Val)
		if e != api.OK {
			return api.ErrForm
		}
		h, _ = handle.Sub(h, addr, n)
		if len(h.Counts) == 0 {
			return writes(ask, remove(key, r.Rev))
		}
		val, _ := handle.Put(h)
		return writes(ask, update(key, val, r.Rev))
	})
}

// grabByWords is chapter 22.
func grabByWords(ask asker, addr uint32, w want) ([]uint32, api.Errno) {
	n := w.N
	if w.One {
		n = 1
	}
	if e := tries(func() api.Errno { return countByWords(ask, w.Attr.Handle, addr, n) }); e != api.OK {
		return nil, e
	}
	var l []uint32
	e := tries(func() api.Errno {
		var e api.Errno
		l, e = giveByWords(ask, addr, w)
		return e
	})
	if e != api.OK {
		l = nil
	}
	if len(l) < n {
		backByWords(ask, w.Attr.Handle, addr, n-len(l))
	}
	return l, e
}

// countByWords is a try of step 1 of grabbing.
func countByWords(ask asker, id string, addr uint32, n int) api.Errno {
	key := "handle/" + id
	r := ask(get(key))
	there, e := isThere(r)
	if e != api.OK {
		return e
	}
	if !there {
		val, _ := handle.Put(handle.Handle{Counts: []handle.Count{{Block: addr &^ 63, N: n}}})
		return writes(ask, kv.Op{Kind: kv.Create, Key: key, Val: val})
	}
	h, e := handle.Read(r.Val)
	if e != api.OK {
		return api.ErrForm
	}
	if h, e = handle.Add(h, addr, n); e != api.OK {
		return e
	}
	val, _ := handle.Put(h)
	return writes(ask, update(key, val, r.Rev))
}

// giveByWords is a try of step 2 of grabbing.
func giveByWords(ask asker, addr uint32, w want) ([]uint32, api.Errno) {
	key := "block/" + netOf(addr)
	r := ask(get(key))
	there, e := isThere(r)
	if e != api.OK {
		return nil, e
	}
	if !there {
		return nil, api.ErrNone
	}
	b, e := image.Read(r.Val)
	if e != api.OK {
		return nil, api.ErrForm
	}
	if w.Own != "" && b.Aff != w.Own {
		return nil, api.ErrTaken
	}
	l := []uint32{w.At}
	if w.One {
		b, e = block.AssignAt(b, w.At, w.Attr)
	} else {
		b, l, e = block.Assign(b, w.N, w.Attr)
	}
	if e != api.OK {
		return nil, e
	}
	if len(l) == 0 {
		return nil, api.ErrFull
	}
	return l, writes(ask, update(key, put(b), r.Rev))
}
