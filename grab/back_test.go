package grab_test

import (
	"slices"
	"strings"
	"testing"

	"virgate/api"
	"virgate/grab"
	"virgate/kv"
	"virgate/mach"
)

// playTaking holds what taking n back of h1 asks, and how it ends.
func playTaking(t *testing.T, what string, n int, l []turn, e api.Errno) {
	t.Helper()
	var ends []ending
	p := mach.New()
	grab.Back(p, "h1", base+40, n, func(e api.Errno) { ends = append(ends, ending{nil, e}) })
	playProc(t, what, p, &ends, l, ending{nil, e})
}

// taking is how val is found as h1, and o is done.
func taking(val string, o kv.Op) []turn {
	return []turn{{get(handKey), found(val, handRev)}, {o, written(9)}}
}

func TestBack(t *testing.T) {
	for _, x := range []struct {
		val string
		n   int
		o   kv.Op
	}{
		{alone(3), 0, update(handKey, alone(3), handRev)},
		{alone(3), 1, update(handKey, alone(2), handRev)},
		{alone(3), 3, remove(handKey, handRev)},
		{alone(3), 4, remove(handKey, handRev)},
		{alone(3), 65535, remove(handKey, handRev)},
		{alone(65535), 65534, update(handKey, alone(1), handRev)},
		{alone(65535), 65535, remove(handKey, handRev)},
		{hand(3), 0, update(handKey, hand(3), handRev)},
		{hand(3), 2, update(handKey, hand(1), handRev)},
		{hand(3), 3, update(handKey, hand(0), handRev)},
		{hand(3), 65535, update(handKey, hand(0), handRev)},
		{hand(0), 2, update(handKey, hand(0), handRev)},
		{"H\x00\x00", 0, remove(handKey, handRev)},
		{"H\x00\x00", 2, remove(handKey, handRev)},
	} {
		playTaking(t, "back", x.n, taking(x.val, x.o), api.OK)
	}
}

func TestBackOfNoHandle(t *testing.T) {
	for _, n := range []int{0, 1, 65535} {
		playTaking(t, "no handle", n, []turn{{get(handKey), refused(api.ErrNone)}}, api.OK)
	}
}

func TestBackOfWhatSaysNothing(t *testing.T) {
	for _, val := range []string{"", "H", "H\x00\x00\x00", "H\x00\x01\x0a\x00\x00\x01\x00\x02", alone(0), "h" + alone(1)[1:], blockOf(0)} {
		playTaking(t, "a handle that says nothing", 2, []turn{{get(handKey), found(val, handRev)}}, api.ErrForm)
	}
}

func TestBackRefused(t *testing.T) {
	refuse := func(what string, try []turn) {
		t.Helper()
		for k := range api.Retries {
			playTaking(t, what, 2, slices.Concat(slices.Repeat(try, k), []turn{{get(handKey), found(hand(9), 21)}, {update(handKey, hand(7), 21), written(22)}}), api.OK)
			playTaking(t, what, 2, slices.Concat(slices.Repeat(try, k), []turn{{get(handKey), refused(api.ErrNone)}}), api.OK)
		}
		playTaking(t, what, 2, slices.Repeat(try, api.Retries), api.ErrTired)
	}
	for _, e := range refusals {
		l := taking(alone(3), update(handKey, alone(1), handRev))
		l[1].told = refused(e)
		refuse("updating", l)
		l = taking(alone(2), remove(handKey, handRev))
		l[1].told = refused(e)
		refuse("deleting", l)
	}
	for _, e := range notNone() {
		// What else is told beside it does not count.
		refuse("reading", []turn{{get(handKey), kv.Result{Code: e, Val: alone(3), Rev: handRev}}})
	}
}

func TestBackLost(t *testing.T) {
	for _, whole := range [][]turn{taking(alone(3), update(handKey, alone(1), handRev)), taking(alone(2), remove(handKey, handRev))} {
		for k := range whole {
			l := slices.Clone(whole[:k+1])
			l[k].told.Code = api.ErrLost
			playTaking(t, "lost", 2, l, api.ErrLost)
		}
	}
}

func TestBackThatMayNotBe(t *testing.T) {
	for _, x := range []struct {
		id string
		n  int
	}{{"h1", -1}, {"h1", -1 << 63}, {"h1", 65536}, {"h1", 1<<63 - 1}, {"", 2}, {"a/b", 2}, {"é", 2}, {"\xff", 0}, {strings.Repeat("h", api.MaxText+1), 2}, {"", -1}} {
		for _, p := range []*mach.Proc{nil, mach.New()} {
			var ends []api.Errno
			ahead := get("ahead")
			p.Ask(ahead, nil)
			grab.Back(p, x.id, base, x.n, func(e api.Errno) { ends = append(ends, e) })
			if !slices.Equal(ends, []api.Errno{api.ErrArg}) {
				t.Errorf("%d of %q: ended %v", x.n, x.id, ends)
			}
			if o, asks := p.Op(); p != nil && (!asks || o != ahead) {
				t.Errorf("%d of %q: asks %#v, %v", x.n, x.id, o, asks)
			}
			grab.Back(p, x.id, base, x.n, nil)
		}
	}
	longest := strings.Repeat("h", api.MaxText)
	for _, n := range []int{0, 1, 65535} {
		p := mach.New()
		grab.Back(p, longest, base, n, nil)
		if o, asks := p.Op(); !asks || o != get("handle/"+longest) {
			t.Errorf("%d of %q: asks %#v, %v", n, longest, o, asks)
		}
	}
}

// Of which block it is counts, not of which address.
func TestBackOfBlocks(t *testing.T) {
	for _, addr := range []uint32{base, base + 1, base + 63} {
		s, p, ended := kv.New(), mach.New(), api.Errno(-1)
		s.Do(create(handKey, hand(3)))
		grab.Back(p, "h1", addr, 2, func(e api.Errno) { ended = e })
		if !mach.Run(p, s.Do, 2) || ended != api.OK || s.Do(get(handKey)).Val != hand(1) {
			t.Errorf("of %d: ended %d: %#v", addr, ended, s.All())
		}
	}
}
