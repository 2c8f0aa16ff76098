package grab

import (
	"virgate/api"
	"virgate/handle"
	"virgate/kv"
	"virgate/lost"
	"virgate/mach"
	"virgate/names"
)

// mostBack is how many are taken back at the most: as many as a handle can have in one block.
const mostBack = 65535

// returner is who takes back what was counted.
type returner struct {
	*mach.Proc
	key   string
	addr  uint32
	n     int
	tries int
	then  func(e api.Errno)
}

// Back takes back n of the handle id in the block of addr, step by step, and goes on with how that ended.
func Back(p *mach.Proc, id string, addr uint32, n int, then func(e api.Errno)) {
	r := &returner{Proc: p, addr: addr, n: n, then: then}
	key, e := names.Handle(id)
	if e != api.OK || n < 0 || n > mostBack {
		r.end(api.ErrArg)
		return
	}
	r.key = key
	r.look()
}

// BackBound tells how often Back asks at the most.
func BackBound() int {
	return stepsOfBack * api.Retries
}

// look tries to take back, if that was not tried often enough.
func (r *returner) look() {
	if r.tries == api.Retries {
		r.end(api.ErrTired)
		return
	}
	r.tries++
	r.step(kv.Op{Kind: kv.Get, Key: r.key}, r.takeBack)
}

func (r *returner) takeBack(told kv.Result) {
	switch told.Code {
	case api.OK:
		h, e := handle.Read(told.Val)
		r.sub(h, e, told.Rev)
	case api.ErrNone:
		r.end(api.OK)
	default:
		r.look()
	}
}

// sub lets h, which is there since rev, have so many fewer, or not be there, if it could be read.
func (r *returner) sub(h handle.Handle, e api.Errno, rev int64) {
	if e != api.OK {
		r.end(e)
		return
	}
	// Of what was read so many are never refused.
	h, _ = handle.Sub(h, r.addr, r.n)
	if h.Total() == 0 {
		r.step(kv.Op{Kind: kv.Delete, Key: r.key, Rev: rev}, r.afterWrite)
		return
	}
	val, _ := handle.Put(h)
	r.step(kv.Op{Kind: kv.Update, Key: r.key, Val: val, Rev: rev}, r.afterWrite)
}

func (r *returner) afterWrite(written kv.Result) {
	if written.Code != api.OK {
		r.look()
		return
	}
	r.end(api.OK)
}

// step asks o, and goes on, but where the disk went away.
func (r *returner) step(o kv.Op, then func(r kv.Result)) {
	r.Ask(o, lost.Or(r.end, then))
}

func (r *returner) end(e api.Errno) {
	if r.then != nil {
		r.then(e)
	}
}
