package leave_test

import (
	"fmt"
	"iter"
	"maps"
	"math/rand"
	"slices"
	"strings"
	"testing"

	"virgate/api"
	"virgate/block"
	"virgate/image"
	"virgate/kv"
	"virgate/leave"
	"virgate/mach"
	"virgate/recs"
	"virgate/view"
)

// asker asks something, and tells what was told.
type asker func(o kv.Op) kv.Result

// stepwise tells a procedure that does what f does, and what stops it.
func stepwise(f func(ask asker)) (*mach.Proc, func()) {
	p, stopped := mach.New(), false
	var told kv.Result
	next, stop := iter.Pull(func(yield func(kv.Op) bool) {
		f(func(o kv.Op) kv.Result {
			if stopped || !yield(o) {
				stopped = true
				return refused(api.ErrLost)
			}
			return told
		})
	})
	var on func(r kv.Result)
	goOn := func() {
		if o, asks := next(); asks {
			p.Ask(o, on)
		}
	}
	on = func(r kv.Result) {
		told = r
		goOn()
	}
	goOn()
	return p, stop
}

// again is no error that ends: it says that the next try begins.
const again = api.Errno(-1)

// tries does one try behind the other, up to one that ends.
func tries(try func() api.Errno) api.Errno {
	for range api.Retries {
		if e := try(); e != again {
			return e
		}
	}
	return api.ErrTired
}

// leaveByWords leaves as the chapter says it, in one go.
func leaveByWords(ask asker, node string, addr uint32) api.Errno {
	aff, blk := "aff/"+node+"/"+netOf(addr), "block/"+netOf(addr)
	return tries(func() api.Errno {
		r := ask(get(aff))
		if r.Code == api.ErrLost || r.Code == api.ErrNone {
			return map[api.Errno]api.Errno{api.ErrLost: api.ErrLost, api.ErrNone: api.OK}[r.Code]
		}
		if r.Code != api.OK {
			return again
		}
		if !slices.Contains([]string{pending, confirmed, leaving}, r.Val) {
			return api.ErrForm
		}
		d := r.Rev
		if r.Val != leaving {
			if r = ask(update(aff, leaving, d)); r.Code == api.ErrLost {
				return api.ErrLost
			} else if r.Code != api.OK {
				return again
			}
			d = r.Rev
		}
		b := ask(get(blk))
		if b.Code == api.ErrLost {
			return api.ErrLost
		}
		if r = ask(get(aff)); r.Code == api.ErrLost {
			return api.ErrLost
		} else if r.Code != api.OK || r.Rev != d {
			return api.ErrStale
		}
		if e := letGoByWords(ask, node, blk, b); e != api.OK {
			return e
		}
		if r = ask(remove(aff, d)); r.Code == api.ErrLost {
			return api.ErrLost
		} else if r.Code != api.OK {
			return api.ErrStale
		}
		return api.OK
	})
}

// letGoByWords is step 3: of the block that was told.
func letGoByWords(ask asker, node, key string, told kv.Result) api.Errno {
	if told.Code == api.ErrNone {
		return api.OK
	}
	if told.Code != api.OK {
		return again
	}
	b, e := image.Read(told.Val)
	if e != api.OK {
		return api.ErrForm
	}
	if b.Aff != node {
		return api.OK
	}
	o := remove(key, told.Rev)
	if len(b.Given()) > 0 {
		b.Aff = ""
		val, _ := image.Put(b)
		o = update(key, val, told.Rev)
	}
	switch ask(o).Code {
	case api.OK:
		return api.OK
	case api.ErrLost:
		return api.ErrLost
	}
	return again
}

// netOf tells the net of a's block, as it stands in keys.
func netOf(a uint32) string {
	return fmt.Sprintf("%d.%d.%d.%d-26", a>>24, a>>16&255, a>>8&255, a&192)
}

// claimByWords claims as chapter 21 says it, of a pool that is open and a node that is there.
func claimByWords(ask asker, node string, addr uint32) api.Errno {
	aff, blk := "aff/"+node+"/"+netOf(addr), "block/"+netOf(addr)
	wrote := false
	e := tries(func() api.Errno {
		var c int64
		switch r := ask(get(aff)); {
		case r.Code != api.OK && r.Code != api.ErrNone:
			return api.ErrLost
		case r.Code == api.ErrNone:
			if r = ask(kv.Op{Kind: kv.Create, Key: aff, Val: pending}); r.Code != api.OK {
				return again
			}
			c, wrote = r.Rev, true
		case r.Val == confirmed:
			if b, e := image.Read(ask(get(blk)).Val); e == api.OK && b.Aff == node {
				return api.OK
			}
			return again
		default:
			if r = ask(update(aff, pending, r.Rev)); r.Code != api.OK {
				return again
			}
			c, wrote = r.Rev, true
		}
		var o kv.Op
		r := ask(get(blk))
		b, _ := image.Read(r.Val)
		if r.Code == api.ErrNone {
			b, _ = block.New(addr, node)
			o = kv.Op{Kind: kv.Create, Key: blk, If: aff, IfRev: c}
		} else if b.Aff != "" && b.Aff != node {
			return api.ErrTaken
		} else {
			b.Aff = node
			o = kv.Op{Kind: kv.Update, Key: blk, Rev: r.Rev, If: aff, IfRev: c}
		}
		o.Val, _ = image.Put(b)
		if ask(o).Code != api.OK || ask(update(aff, confirmed, c)).Code != api.OK {
			return again
		}
		return api.OK
	})
	if wrote && e != api.OK {
		leaveByWords(ask, node, addr)
	}
	return e
}

// giveByWords gives one address of the block, and frees it again.
func giveByWords(ask asker, node string, addr uint32) {
	blk := "block/" + netOf(addr)
	a := attr("h9", node)
	given := tries(func() api.Errno {
		r := ask(get(blk))
		if r.Code != api.OK {
			return r.Code
		}
		b, _ := image.Read(r.Val)
		b, _, _ = block.Assign(b, 1, a)
		val, _ := image.Put(b)
		if ask(update(blk, val, r.Rev)).Code != api.OK {
			return again
		}
		return api.OK
	})
	if given != api.OK {
		return
	}
	tries(func() api.Errno {
		r := ask(get(blk))
		if r.Code != api.OK {
			return r.Code
		}
		b, _ := image.Read(r.Val)
		b, _, _ = block.ReleaseHandle(b, a.Handle)
		val, _ := image.Put(b)
		w := ask(update(blk, val, r.Rev))
		if w.Code != api.OK {
			return again
		}
		if b.Aff == "" && b.Empty() {
			ask(remove(blk, w.Rev))
		}
		return api.OK
	})
}

// tidyByWords takes the block away, if it is nobody's, and nothing of it is given.
func tidyByWords(ask asker, addr uint32) {
	blk := "block/" + netOf(addr)
	r := ask(get(blk))
	if b, e := image.Read(r.Val); e == api.OK && b.Aff == "" && b.Empty() {
		ask(remove(blk, r.Rev))
	}
}

// actor is one of several that take turns.
type actor struct {
	name   string
	leaves bool
	start  func() (*mach.Proc, func())
}

func leaves(node string) actor {
	return actor{"leave " + node, true, func() (*mach.Proc, func()) {
		p := mach.New()
		leave.Go(p, node, base, nil)
		return p, func() {}
	}}
}

func claims(node string) actor {
	return actor{"claim " + node, false, func() (*mach.Proc, func()) {
		return stepwise(func(ask asker) { claimByWords(ask, node, base) })
	}}
}

func gives(node string) actor {
	return actor{"give " + node, false, func() (*mach.Proc, func()) {
		return stepwise(func(ask asker) { giveByWords(ask, node, base) })
	}}
}

func tidies() actor {
	return actor{"tidy", false, func() (*mach.Proc, func()) {
		return stepwise(func(ask asker) { tidyByWords(ask, base) })
	}}
}

// world tells a state of affinities by their nodes, and of the block, if it is not empty.
func world(affs map[string]string, blk string) *kv.State {
	s := kv.New()
	for _, node := range slices.Sorted(maps.Keys(affs)) {
		s.Do(kv.Op{Kind: kv.Create, Key: "aff/" + node + "/10.0.0.0-26", Val: affs[node]})
	}
	if blk != "" {
		s.Do(kv.Op{Kind: kv.Create, Key: blkKey, Val: blk})
	}
	return s
}

// worlds tells states in which all that must hold holds.
func worlds() []*kv.State {
	var l []*kv.State
	for _, n := range []int{0, 3} {
		for _, val := range []string{pending, confirmed, leaving} {
			l = append(l, world(map[string]string{"n1": val}, blockOf("n1", n)))
			l = append(l, world(map[string]string{"n1": val, "n2": pending}, blockOf("n1", n)))
		}
		for _, val := range []string{pending, leaving} {
			l = append(l, world(map[string]string{"n1": val}, ""))
			l = append(l, world(map[string]string{"n1": val}, blockOf("", n)))
			l = append(l, world(map[string]string{"n1": val, "n2": confirmed}, blockOf("n2", n)))
		}
	}
	return append(l, world(nil, ""), world(nil, blockOf("", 3)))
}

// copied tells a state that is the same, and goes its own way.
func copied(s *kv.State) *kv.State {
	c, _ := kv.Of(s.Rev(), s.All())
	return c
}

// wrong tells what does not hold in s of affinities and blocks.
func wrong(s *kv.State) string {
	v, e := view.Of(s.All())
	if e != api.OK {
		return "it can't be viewed"
	}
	for a, state := range v.Affs {
		b, there := v.Block(a.Block)
		if state == recs.Confirmed && (!there || b.Aff != a.Node) {
			return a.Node + " is Confirmed, but the block is not its own"
		}
	}
	for _, b := range v.Blocks {
		if _, there := v.Affs[view.Aff{Node: b.Aff, Block: b.Addr}]; b.Aff != "" && !there {
			return "the block is of " + b.Aff + ", which has no affinity"
		}
	}
	return ""
}

func given(s *kv.State) map[uint32]block.Attr {
	v, _ := view.Of(s.All())
	return v.Given()
}

// troupe is several that take turns at one state.
type troupe struct {
	state  *kv.State
	given  map[uint32]block.Attr
	actors []actor
	procs  []*mach.Proc
	stops  []func()
	turns  []int // who took them
}

func gather(s *kv.State, l []actor) *troupe {
	x := &troupe{state: copied(s), given: given(s), actors: l}
	for _, a := range l {
		p, stop := a.start()
		x.procs, x.stops = append(x.procs, p), append(x.stops, stop)
	}
	return x
}

func (x *troupe) dismiss() {
	for _, stop := range x.stops {
		stop()
	}
}

// asking tells which of them ask something.
func (x *troupe) asking() []int {
	var l []int
	for k, p := range x.procs {
		if _, asks := p.Op(); asks {
			l = append(l, k)
		}
	}
	return l
}

// last tells who took the last turn, or -1.
func (x *troupe) last() int {
	if len(x.turns) == 0 {
		return -1
	}
	return x.turns[len(x.turns)-1]
}

func (x *troupe) story() string {
	var l []string
	for _, k := range x.turns {
		l = append(l, x.actors[k].name)
	}
	return strings.Join(l, ", ")
}

// step lets the k-th one do a step, and holds that nothing is wrong behind it.
func (x *troupe) step(t *testing.T, k int) {
	t.Helper()
	x.turns = append(x.turns, k)
	rev := x.state.Rev()
	mach.Run(x.procs[k], x.state.Do, 1)
	if x.state.Rev() == rev {
		return
	}
	if w := wrong(x.state); w != "" {
		t.Fatalf("%s behind the turns %s: %#v", w, x.story(), x.state.All())
	}
	ahead := x.given
	x.given = given(x.state)
	if x.actors[k].leaves && !maps.Equal(ahead, x.given) {
		t.Fatalf("what is given has changed behind the turns %s: %#v", x.story(), x.state.All())
	}
}

// play lets them take turns as path says, and behind that go on each to its end; it tells of each turn who asked.
func (x *troupe) play(t *testing.T, path []int) [][]int {
	t.Helper()
	defer x.dismiss()
	var asked [][]int
	for l := x.asking(); len(l) > 0; l = x.asking() {
		k := l[0]
		if n := len(asked); n < len(path) {
			k = path[n]
		} else if slices.Contains(l, x.last()) {
			k = x.last()
		}
		asked = append(asked, l)
		x.step(t, k)
	}
	return asked
}

// branch is how turns begin, and how often one was broken off in them.
type branch struct {
	path   []int
	breaks int
}

// everyTurn goes through all turns in which no more than so many times one is broken off ahead of its end.
func everyTurn(t *testing.T, s *kv.State, breaks int, l ...actor) {
	t.Helper()
	for work := []branch{{}}; len(work) > 0; {
		b := work[len(work)-1]
		work = work[:len(work)-1]
		x := gather(s, l)
		asked := x.play(t, b.path)
		for n := len(b.path); n < len(asked); n++ {
			more := b.breaks
			if n > 0 && slices.Contains(asked[n], x.turns[n-1]) {
				more++
			}
			for _, k := range asked[n] {
				if k != x.turns[n] && more <= breaks {
					work = append(work, branch{append(slices.Clone(x.turns[:n]), k), more})
				}
			}
		}
	}
}

// Two in all their turns that break one off at most three times, three in those that do so once: what holds stays so, and nobody's leaving changes what is given.
func TestEveryTurn(t *testing.T) {
	for _, s := range worlds() {
		for _, l := range [][]actor{
			{leaves("n1"), leaves("n1")},
			{leaves("n1"), claims("n1")},
			{leaves("n1"), claims("n2")},
			{leaves("n1"), gives("n1")},
			{leaves("n1"), leaves("n1"), claims("n1")},
			{leaves("n1"), claims("n1"), gives("n1")},
			{leaves("n1"), leaves("n2"), tidies()},
		} {
			breaks := 3
			if len(l) > 2 {
				breaks = 1
			}
			everyTurn(t, s, breaks, l...)
		}
	}
}

// Many in any turns, each of which may stop for ever: what holds stays so, and whoever leaves alone behind that, leaves.
func TestAnyTurn(t *testing.T) {
	chance := rand.New(rand.NewSource(2040))
	kinds := []actor{leaves("n1"), leaves("n1"), leaves("n2"), claims("n1"), claims("n1"), claims("n2"), gives("n1"), gives("n2"), tidies()}
	l := worlds()
	for range 6000 {
		var some []actor
		for range 3 + chance.Intn(6) {
			some = append(some, kinds[chance.Intn(len(kinds))])
		}
		x := gather(l[chance.Intn(len(l))], some)
		for asking := x.asking(); len(asking) > 0 && chance.Intn(60) > 0; asking = x.asking() {
			x.step(t, asking[chance.Intn(len(asking))])
		}
		x.dismiss()
		for _, node := range []string{"n1", "n2"} {
			wantLeft(t, x.state, node, x.story())
		}
	}
}

// wantLeft holds what node does to s that leaves alone: of all items, with the revisions of those that it does not change.
func wantLeft(t *testing.T, s *kv.State, node, story string) {
	t.Helper()
	aff := "aff/" + node + "/10.0.0.0-26"
	want := map[string]kv.Item{}
	for _, it := range s.All() {
		want[it.Key] = it
	}
	blk, hasBlock := want[blkKey]
	b, _ := image.Read(blk.Val)
	if _, has := want[aff]; has {
		delete(want, aff)
		if hasBlock && b.Aff == node {
			delete(want, blkKey)
			if len(b.Given()) > 0 {
				b.Aff = ""
				blk.Val, _ = image.Put(b)
				blk.Rev = 0
				want[blkKey] = blk
			}
		}
	}
	p, ends := mach.New(), []api.Errno(nil)
	leave.Go(p, node, base+17, func(e api.Errno) { ends = append(ends, e) })
	done := mach.Run(p, s.Do, 6)
	got := map[string]kv.Item{}
	for _, it := range s.All() {
		if want[it.Key].Rev == 0 {
			it.Rev = 0
		}
		got[it.Key] = it
	}
	if !done || !slices.Equal(ends, []api.Errno{api.OK}) || !maps.Equal(got, want) {
		t.Errorf("%s leaves alone behind %q: ended %v, %v; left %#v; want %#v", node, story, done, ends, got, want)
	}
}

// Alone it leaves, however the affinity stands, and whatever the block is; all else stays as it is.
func TestAlone(t *testing.T) {
	for _, val := range []string{"", pending, confirmed, leaving} {
		for _, aff := range []string{"", "n1", "n2", "n11"} {
			for _, n := range []int{-1, 0, 1, 2, 63, 64} {
				affs := map[string]string{"n2": pending, "n11": confirmed}
				if val != "" {
					affs["n1"] = val
				}
				s := world(affs, "")
				for _, key := range []string{"aff/n1/10.0.0.64-26", "aff/n1/9.255.255.192-26", "aff/n1", "block/10.0.0.64-26", "block/10.0.0.0-25", "handle/h1", "lock", "node/n1", "pool/10.0.0.0-24"} {
					s.Do(kv.Op{Kind: kv.Create, Key: key, Val: confirmed})
				}
				if n >= 0 {
					s.Do(kv.Op{Kind: kv.Create, Key: blkKey, Val: blockOf(aff, n)})
				}
				wantLeft(t, s, "n1", "nothing")
				wantLeft(t, s, "n1", "leaving")
			}
		}
	}
}
