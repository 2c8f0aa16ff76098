package among

import (
	"maps"
	"slices"

	"virgate/api"
	"virgate/block"
	"virgate/drop"
	"virgate/handle"
	"virgate/image"
	"virgate/kv"
	"virgate/names"
)

// collectByWords is chapter 29.
func collectByWords(ask asker) ([]uint32, api.Errno) {
	nodes := goneByWords(listed(ask, "node/"))
	for _, it := range listed(ask, "aff/") {
		node, addr, is := names.OfAff(it.Key)
		if is && (it.Val == pending || it.Val == leaving || it.Val == confirmed && slices.Contains(nodes, node)) {
			leaveByWords(ask, node, addr)
		}
	}
	var freed []uint32
	for _, b := range blocksByWords(listed(ask, "block/")) {
		if w := (drop.What{Kind: drop.Nodes, Nodes: nodes}); len(meantByWords(b.block, w)) > 0 {
			l, _ := dropByWords(ask, b.addr, w)
			freed = append(freed, l...)
		}
	}
	for _, b := range blocksByWords(listed(ask, "block/")) {
		if b.block.Aff == "" && len(b.block.Free) == 64 {
			ask(remove(b.key, b.rev))
		}
	}
	countEachByWords(ask)
	return freed, api.OK
}

// goneByWords is step 1 of collecting: those of the nodes that are gone.
func goneByWords(nodes []kv.Item) []string {
	var l []string
	for _, it := range nodes {
		if name, is := names.OfNode(it.Key); is && it.Val == gone {
			l = append(l, name)
		}
	}
	slices.Sort(l)
	return l
}

// listedBlock is a block that was listed.
type listedBlock struct {
	key   string
	addr  uint32
	rev   int64
	block block.Block
}

// blocksByWords tells those of what was listed that can be read as blocks.
func blocksByWords(items []kv.Item) []listedBlock {
	var l []listedBlock
	for _, it := range items {
		addr, is := names.OfBlock(it.Key)
		if b, e := image.Read(it.Val); is && e == api.OK {
			l = append(l, listedBlock{it.Key, addr, it.Rev, b})
		}
	}
	return l
}

// countEachByWords is step 5 of collecting.
func countEachByWords(ask asker) {
	has := map[string]map[uint32]int{}
	for _, b := range blocksByWords(listed(ask, "block/")) {
		for id, n := range perHandle(b.block) {
			if has[id] == nil {
				has[id] = map[uint32]int{}
			}
			has[id][b.addr] = n
		}
	}
	known := map[string]bool{}
	var asked []kv.Op
	for _, it := range listed(ask, "handle/") {
		id, is := names.OfHandle(it.Key)
		if !is {
			continue
		}
		known[id] = true
		h, e := handle.Read(it.Val)
		if e != api.OK {
			continue
		}
		if len(has[id]) == 0 {
			asked = append(asked, remove(it.Key, it.Rev))
		} else if val := handleOfBlocks(has[id]); val != handleOfAll(h.Counts...) {
			asked = append(asked, update(it.Key, val, it.Rev))
		}
	}
	for _, id := range slices.Sorted(maps.Keys(has)) {
		if !known[id] {
			asked = append(asked, kv.Op{Kind: kv.Create, Key: "handle/" + id, Val: handleOfBlocks(has[id])})
		}
	}
	for _, o := range asked {
		ask(o)
	}
}

// handleOfBlocks tells the bytes of a handle that has so many, by blocks.
func handleOfBlocks(n map[uint32]int) string {
	var l []handle.Count
	for _, addr := range slices.Sorted(maps.Keys(n)) {
		l = append(l, handle.Count{Block: addr, N: n[addr]})
	}
	return handleOfAll(l...)
}
