// Package gather puts together which addresses come of several blocks. Those who free addresses, or look them up, wherever they are, share it.
package gather

import (
	"virgate/api"
	"virgate/queue"
)

// gatherer is who goes from block to block.
type gatherer struct {
	each   func(addr uint32, then func(l []uint32, e api.Errno)) // what is done with each block
	l      []uint32
	failed api.Errno // the first error that a block ended with
	then   func(l []uint32, e api.Errno)
}

// Each does each with all blocks, one behind the other, and goes on with all addresses that these ended with. An error counts as none of that block, and is told only if there are none at all; but ErrLost is the end.
func Each(blocks []uint32, each func(addr uint32, then func(l []uint32, e api.Errno)), then func(l []uint32, e api.Errno)) {
	g := &gatherer{each: each, then: then}
	queue.Of(blocks).Each(g.use, g.end)
}

// use does what is done with the block of addr, and goes on by next, but where the disk went away.
func (g *gatherer) use(addr uint32, next func()) {
	g.each(addr, func(l []uint32, e api.Errno) {
		if e == api.ErrLost {
			g.then(nil, e)
			return
		}
		if g.failed == api.OK {
			g.failed = e
		}
		g.l = append(g.l, l...)
		next()
	})
}

func (g *gatherer) end() {
	if len(g.l) == 0 {
		g.then(nil, g.failed)
		return
	}
	g.then(g.l, api.OK)
}
