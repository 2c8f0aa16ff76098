package among

import (
	"fmt"

	"virgate/api"
	"virgate/cidr"
	"virgate/drop"
	"virgate/handle"
	"virgate/image"
	"virgate/kv"
	"virgate/names"
	"virgate/recs"
)

// countedByWords tells the blocks of a handle's Counts.
func countedByWords(ask asker, id string) ([]uint32, api.Errno) {
	r := ask(get("handle/" + id))
	if r.Code != api.OK {
		return nil, api.ErrNone
	}
	h, e := handle.Read(r.Val)
	var l []uint32
	for _, c := range h.Counts {
		l = append(l, c.Block)
	}
	return l, e
}

// freeHandleByWords is what chapter 27 says of freeing.
func freeHandleByWords(ask asker, id string) ([]uint32, api.Errno) {
	l, e := countedByWords(ask, id)
	if e != api.OK {
		return nil, e
	}
	return dropEach(ask, l, func(addr uint32) (uint32, drop.What) {
		return addr, drop.What{Kind: drop.Handle, ID: id}
	})
}

// lookByWords is what chapter 27 says of looking up.
func lookByWords(ask asker, id string) ([]uint32, api.Errno) {
	l, e := countedByWords(ask, id)
	if e != api.OK {
		return nil, e
	}
	var has []uint32
	for _, addr := range l {
		r := ask(get("block/" + netOf(addr)))
		if b, e := image.Read(r.Val); r.Code == api.OK && e == api.OK {
			has = append(has, meantByWords(b, drop.What{Kind: drop.Handle, ID: id})...)
		}
	}
	return has, api.OK
}

// poolKeyOf tells the key of the pool n.
func poolKeyOf(n cidr.Net) string {
	a := n.Addr
	return fmt.Sprintf("pool/%d.%d.%d.%d-%d", a>>24, a>>16&255, a>>8&255, a&255, n.Bits)
}

// poolVal tells the bytes of the pool n.
func poolVal(n cidr.Net, open bool) string {
	s := "P" + string([]byte{byte(n.Addr >> 24), byte(n.Addr >> 16), byte(n.Addr >> 8), byte(n.Addr), byte(n.Bits)})
	if open {
		return s + "\x01"
	}
	return s + "\x00"
}

// meet tells whether two nets have an address in common.
func meet(a, b cidr.Net) bool {
	low := 32 - min(a.Bits, b.Bits)
	return a.Addr>>low == b.Addr>>low
}

// addPoolByWords is what chapter 28 says of it.
func addPoolByWords(ask asker, n cidr.Net) api.Errno {
	return tries(func() api.Errno {
		r := ask(get("lock"))
		there, e := isThere(r)
		if e != api.OK {
			return e
		}
		o := kv.Op{Kind: kv.Create, Key: "lock", Val: "L"}
		if there {
			o = update("lock", "L", r.Rev)
		}
		c := ask(o)
		if c.Code != api.OK {
			return again
		}
		r = ask(list("pool/"))
		if r.Code != api.OK {
			return again
		}
		for _, it := range r.Items {
			p, e := recs.ReadPool(it.Val)
			if e != api.OK {
				return api.ErrForm
			}
			if meet(p.Net, n) {
				return api.ErrTaken
			}
		}
		return writes(ask, kv.Op{Kind: kv.Create, Key: poolKeyOf(n), Val: poolVal(n, true), If: "lock", IfRev: c.Rev})
	})
}

// foundByWords is how setting and dropping a pool begin: the pool, and its revision.
func foundByWords(ask asker, n cidr.Net) (recs.Pool, int64, api.Errno) {
	r := ask(get(poolKeyOf(n)))
	there, e := isThere(r)
	if e != api.OK {
		return recs.Pool{}, 0, e
	}
	if !there {
		return recs.Pool{}, 0, api.ErrNone
	}
	p, e := recs.ReadPool(r.Val)
	return p, r.Rev, e
}

// setPoolByWords is what chapter 28 says of it.
func setPoolByWords(ask asker, n cidr.Net, open bool) api.Errno {
	return tries(func() api.Errno {
		p, rev, e := foundByWords(ask, n)
		if e != api.OK {
			return e
		}
		return writes(ask, update(poolKeyOf(n), poolVal(p.Net, open), rev))
	})
}

// dropPoolByWords is what chapter 28 says of it.
func dropPoolByWords(ask asker, n cidr.Net) api.Errno {
	return tries(func() api.Errno {
		p, rev, e := foundByWords(ask, n)
		if e != api.OK {
			return e
		}
		if p.Open {
			return api.ErrState
		}
		for _, start := range []string{"aff/", "block/"} {
			l := ask(list(start))
			if l.Code != api.OK {
				return again
			}
			if anyIn(n, l.Items) {
				return api.ErrState
			}
		}
		return writes(ask, remove(poolKeyOf(n), rev))
	})
}

// anyIn tells whether one of the affinities, or the blocks, lies in n.
func anyIn(n cidr.Net, l []kv.Item) bool {
	for _, it := range l {
		_, a, isAff := names.OfAff(it.Key)
		b, isBlock := names.OfBlock(it.Key)
		if isAff && meet(n, cidr.Net{Addr: a, Bits: 26}) || isBlock && meet(n, cidr.Net{Addr: b, Bits: 26}) {
			return true
		}
	}
	return false
}

// addNodeByWords is what chapter 28 says of it.
func addNodeByWords(ask asker, name string) api.Errno {
	return tries(func() api.Errno {
		r := ask(kv.Op{Kind: kv.Create, Key: "node/" + name, Val: present})
		if r.Code == api.OK || r.Code == api.ErrThere {
			return r.Code
		}
		return again
	})
}

// dropNodeByWords is what chapter 28 says of it.
func dropNodeByWords(ask asker, name string) api.Errno {
	key := "node/" + name
	return tries(func() api.Errno {
		r := ask(get(key))
		there, e := isThere(r)
		switch {
		case e != api.OK:
			return e
		case !there:
			return api.ErrNone
		case r.Val == gone:
			return api.OK
		case r.Val != present:
			return api.ErrForm
		}
		return writes(ask, update(key, gone, r.Rev))
	})
}
