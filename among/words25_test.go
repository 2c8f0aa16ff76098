package among

import (
	"maps"
	"slices"

	"virgate/api"
	"virgate/block"
	"virgate/drop"
)

// exactByWords is chapter 25.
func exactByWords(ask asker, a block.Attr, addr uint32) ([]uint32, api.Errno) {
	if e := claimByWords(ask, a.Node, addr); e != api.OK && e != api.ErrTaken {
		return nil, e
	}
	return grabByWords(ask, addr, want{One: true, At: addr, Attr: a})
}

// freeByWords is chapter 26.
func freeByWords(ask asker, l []uint32) ([]uint32, api.Errno) {
	of := map[uint32][]uint32{}
	for _, addr := range l {
		of[addr/64] = append(of[addr/64], addr)
	}
	return dropEach(ask, slices.Sorted(maps.Keys(of)), func(k uint32) (uint32, drop.What) {
		return 64 * k, drop.What{Kind: drop.List, L: of[k]}
	})
}

// dropEach drops, of each of l, what that tells of a block; an error is told only if nothing is freed at all.
func dropEach(ask asker, l []uint32, what func(k uint32) (uint32, drop.What)) ([]uint32, api.Errno) {
	var freed []uint32
	var errors []api.Errno
	for _, k := range l {
		addr, w := what(k)
		some, e := dropByWords(ask, addr, w)
		freed = append(freed, some...)
		if e != api.OK {
			errors = append(errors, e)
		}
	}
	if len(freed) == 0 && len(errors) > 0 {
		return nil, errors[0]
	}
	return freed, api.OK
}
