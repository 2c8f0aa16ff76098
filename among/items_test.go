package among

import (
	"maps"

	"virgate/api"
	"virgate/block"
	"virgate/cidr"
	"virgate/handle"
	"virgate/image"
	"virgate/kv"
)

// base is the first address of the block that most do something with; the keys are written by hand.
const (
	base    = 10 << 24
	affKey  = "aff/n1/10.0.0.0-26"
	blkKey  = "block/10.0.0.0-26"
	poolKey = "pool/10.0.0.0-24"
	nodeKey = "node/n1"
)

// Records, as bytes written by hand.
const (
	pending    = "A\x01"
	confirmed  = "A\x02"
	leaving    = "A\x03"
	present    = "N\x00"
	gone       = "N\x01"
	openPool   = "P\x0a\x00\x00\x00\x18\x01"
	closedPool = "P\x0a\x00\x00\x00\x18\x00"
)

// Nets of pools: that of the one that is there, one that has it, the one behind it, and one that has nothing to do with any of these.
var (
	pool24  = cidr.Net{Addr: base, Bits: 24}
	pool23  = cidr.Net{Addr: base, Bits: 23}
	nextNet = cidr.Net{Addr: base + 256, Bits: 24}
	farNet  = cidr.Net{Addr: 11 << 24, Bits: 26}
)

func attr(handle, node string) block.Attr { return block.Attr{Handle: handle, Node: node} }

// blockOf tells the bytes of the block at base that is aff's, and of which n addresses are given under two attributes.
func blockOf(aff string, n int) string { return blockAt(base, aff, n) }

// blockAt tells those of the block of addr.
func blockAt(addr uint32, aff string, n int) string {
	b, _ := block.New(addr, aff)
	b, _, _ = block.Assign(b, n/2, attr("h1", "n1"))
	b, _, _ = block.Assign(b, n-n/2, attr("h2", "n2"))
	return put(b)
}

// handlesOf tells the handles, by their keys, that have just what is given in a block.
func handlesOf(blk string) map[string]string {
	b, _ := image.Read(blk)
	m := map[string]string{}
	for id, n := range maps.All(perHandle(b)) {
		m["handle/"+id] = handleOf(b.Addr, n)
	}
	return m
}

// handleOf tells the bytes of a handle that has n in a block.
func handleOf(block uint32, n int) string { return handleOfAll(handle.Count{Block: block, N: n}) }

// handleOfFour tells those of one that has some in each block of the pool.
func handleOfFour() string {
	return handleOfAll(handle.Count{Block: base, N: 2}, handle.Count{Block: base + 64, N: 65535}, handle.Count{Block: base + 128, N: 1}, handle.Count{Block: base + 192, N: 3})
}

func handleOfAll(l ...handle.Count) string {
	val, e := handle.Put(handle.Handle{Counts: l})
	if e != api.OK {
		panic("a handle that is not right")
	}
	return val
}

func get(key string) kv.Op { return kv.Op{Kind: kv.Get, Key: key} }

func list(key string) kv.Op { return kv.Op{Kind: kv.List, Key: key} }

func update(key, val string, rev int64) kv.Op {
	return kv.Op{Kind: kv.Update, Key: key, Val: val, Rev: rev}
}

func remove(key string, rev int64) kv.Op { return kv.Op{Kind: kv.Delete, Key: key, Rev: rev} }

func refused(e api.Errno) kv.Result { return kv.Result{Code: e} }
