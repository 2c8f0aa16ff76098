package gather_test

import (
	"slices"
	"testing"

	"virgate/api"
	"virgate/gather"
)

// ending is what one of them, or all, ended with.
type ending struct {
	l []uint32
	e api.Errno
}

func (x ending) is(y ending) bool { return x.e == y.e && slices.Equal(x.l, y.l) }

func found(l ...uint32) ending { return ending{l, api.OK} }

func failed(e api.Errno) ending { return ending{nil, e} }

// run goes through so many blocks as ends has, each of which ends with that, and tells which were gone to, and how all ended.
func run(t *testing.T, ends []ending) (int, ending) {
	t.Helper()
	var blocks []uint32
	for k := range ends {
		blocks = append(blocks, uint32(1000-64*k))
	}
	var gone []uint32
	var all []ending
	gather.Each(blocks, func(addr uint32, then func(l []uint32, e api.Errno)) {
		x := ends[len(gone)]
		gone = append(gone, addr)
		then(x.l, x.e)
	}, func(l []uint32, e api.Errno) { all = append(all, ending{l, e}) })
	if len(all) != 1 || !slices.Equal(gone, blocks[:len(gone)]) {
		t.Fatalf("of %v: went to %v, ended %v", ends, gone, all)
	}
	return len(gone), all[0]
}

func TestEach(t *testing.T) {
	tired, form, lost := failed(api.ErrTired), failed(api.ErrForm), failed(api.ErrLost)
	for _, x := range []struct {
		ends []ending
		gone int
		want ending
	}{
		{nil, 0, found()},
		{[]ending{found()}, 1, found()},
		{[]ending{found(3, 1)}, 1, found(3, 1)},
		{[]ending{found(3, 1), found(), found(2, 3)}, 3, found(3, 1, 2, 3)},
		{[]ending{tired}, 1, tired},
		{[]ending{found(), tired, form}, 3, tired},
		{[]ending{form, found(), tired}, 3, form},
		{[]ending{form, found(5), tired}, 3, found(5)},
		{[]ending{found(5), form}, 2, found(5)},
		{[]ending{lost}, 1, lost},
		{[]ending{found(5), form, lost, found(6)}, 3, lost},
		{[]ending{found(5), found(6), lost}, 3, lost},
	} {
		if gone, got := run(t, x.ends); gone != x.gone || !got.is(x.want) {
			t.Errorf("of %v: ended with %v behind %d; want %v, %d", x.ends, got, gone, x.want, x.gone)
		}
	}
}

// One goes on to the next one only when the one ahead has ended; who never ends ends it there.
func TestOneBehindAnother(t *testing.T) {
	var gone []uint32
	var on func(l []uint32, e api.Errno)
	var all []ending
	gather.Each([]uint32{64, 0, 128}, func(addr uint32, then func(l []uint32, e api.Errno)) {
		gone = append(gone, addr)
		on = then
	}, func(l []uint32, e api.Errno) { all = append(all, ending{l, e}) })
	for k, addr := range []uint32{64, 0, 128} {
		if len(gone) != k+1 || gone[k] != addr || len(all) != 0 {
			t.Fatalf("went to %v, ended %v behind %d", gone, all, k)
		}
		on([]uint32{addr + 1}, api.OK)
	}
	if len(all) != 1 || !all[0].is(found(65, 1, 129)) {
		t.Errorf("ended %v", all)
	}
}

// What is told is new memory, whatever is written into what came of the blocks, or into the list of these.
func TestListsAreApart(t *testing.T) {
	blocks, part := []uint32{0, 64}, make([]uint32, 1, 9)
	var told []uint32
	var on []func()
	gather.Each(blocks, func(addr uint32, then func(l []uint32, e api.Errno)) {
		on = append(on, func() {
			part[0] = addr + 7
			then(part, api.OK)
		})
	}, func(l []uint32, e api.Errno) { told = l })
	blocks[1] = 999
	on[0]()
	on[1]()
	part[0] = 999
	if !slices.Equal(told, []uint32{7, 71}) || !slices.Equal(blocks, []uint32{0, 999}) {
		t.Errorf("told %v of %v", told, blocks)
	}
}
