package free_test

import (
	"cmp"
	"maps"
	"math/rand"
	"slices"
	"testing"

	"virgate/api"
	"virgate/block"
	"virgate/drop"
	"virgate/free"
	"virgate/handle"
	"virgate/image"
	"virgate/kv"
	"virgate/mach"
	"virgate/names"
	"virgate/view"
)

// base is the first address of the first one of most blocks.
const base = 10 << 24

// The blocks, by their addresses, as they stand in keys; these go by their bytes another way.
var (
	firsts = []uint32{base, base + 64, base + 128, base + 192}
	keys   = []string{"block/10.0.0.0-26", "block/10.0.0.64-26", "block/10.0.0.128-26", "block/10.0.0.192-26"}
)

// at tells addresses from base on.
func at(l ...uint32) []uint32 {
	var all []uint32
	for _, k := range l {
		all = append(all, base+k)
	}
	return all
}

// attrs are under which addresses are given in turn, from the first one of each block on.
var attrs = []block.Attr{{Handle: "h2", Node: "n1"}, {Handle: "h1", Node: "n1"}, {Handle: "h2", Node: "n2"}}

// state tells a state of as many blocks as affs has, each of which is that one's, and in each of which the first n addresses are given; the handles have just that.
func state(n int, affs ...string) *kv.State {
	s := kv.New()
	hands := map[string]handle.Handle{}
	for k, aff := range affs {
		b, _ := block.New(firsts[k], aff)
		for i := range n {
			a := attrs[i%len(attrs)]
			b, _, _ = block.Assign(b, 1, a)
			hands[a.Handle], _ = handle.Add(hands[a.Handle], firsts[k], 1)
		}
		create(s, keys[k], put(b))
	}
	for _, id := range slices.Sorted(maps.Keys(hands)) {
		val, _ := handle.Put(hands[id])
		create(s, "handle/"+id, val)
	}
	return s
}

func put(b block.Block) string {
	val, e := image.Put(b)
	if e != api.OK {
		panic("a block that is not right")
	}
	return val
}

func create(s *kv.State, key, val string) { s.Do(kv.Op{Kind: kv.Create, Key: key, Val: val}) }

func get(key string) kv.Op { return kv.Op{Kind: kv.Get, Key: key} }

// set lets key have val, if it is there.
func set(s *kv.State, key, val string) {
	s.Do(kv.Op{Kind: kv.Update, Key: key, Val: val, Rev: s.Do(get(key)).Rev})
}

// ending is what somebody ended with.
type ending struct {
	l []uint32
	e api.Errno
}

func (x ending) is(y ending) bool { return x.e == y.e && slices.Equal(x.l, y.l) }

func freed(l ...uint32) ending { return ending{at(l...), api.OK} }

func failed(e api.Errno) ending { return ending{nil, e} }

// run frees l by what do tells, and tells how that ended, and what was asked.
func run(t *testing.T, l []uint32, do func(o kv.Op) kv.Result) (ending, []kv.Op) {
	t.Helper()
	var ends []ending
	var asked []kv.Op
	p := mach.New()
	free.Go(p, l, func(l []uint32, e api.Errno) { ends = append(ends, ending{l, e}) })
	done := mach.Run(p, func(o kv.Op) kv.Result {
		if len(ends) != 0 {
			t.Errorf("%v: ended %v, and asks %#v", l, ends, o)
		}
		asked = append(asked, o)
		return do(o)
	}, 99999)
	if !done || len(ends) != 1 {
		t.Fatalf("%v: ended %v, %v", l, done, ends)
	}
	return ends[0], asked
}

// spelt tells what was asked, as text.
func spelt(l []kv.Op) []string {
	var said []string
	for _, o := range l {
		said = append(said, []string{"", "get ", "list ", "create ", "update ", "delete "}[o.Kind]+o.Key)
	}
	return said
}

// wantEnd holds how these are freed, and, part by part, what is asked for that.
func wantEnd(t *testing.T, what string, do func(o kv.Op) kv.Result, l []uint32, want ending, parts ...[]string) {
	t.Helper()
	got, asked := run(t, l, do)
	if !got.is(want) {
		t.Errorf("%s: %v: ended with %v; want %v", what, l, got, want)
	}
	if l := slices.Concat(parts...); !slices.Equal(spelt(asked), l) {
		t.Errorf("%s: asked %q; want %q", what, spelt(asked), l)
	}
}

// drops tells what is asked to free some of the k-th block; by of each of these handles what is done to it.
func drops(k int, by ...string) []string {
	l := []string{"get " + keys[k], "update " + keys[k]}
	for j, o := range by {
		key := []string{"handle/h1", "handle/h2"}[j]
		if o != "" {
			l = append(l, "get "+key, o+" "+key)
		}
	}
	return l
}

// looks tells what is asked of the k-th block, if nothing of it is freed.
func looks(k int) []string { return drops(k)[:1] }

func TestGroup(t *testing.T) {
	for _, x := range []struct {
		l    []uint32
		want map[uint32][]uint32
	}{
		{nil, nil},
		{[]uint32{}, nil},
		{[]uint32{0}, map[uint32][]uint32{0: {0}}},
		{[]uint32{70, 1, 2}, map[uint32][]uint32{0: {1, 2}, 64: {70}}},
		{[]uint32{63, 64, 127, 128, 0}, map[uint32][]uint32{0: {63, 0}, 64: {64, 127}, 128: {128}}},
		{[]uint32{5, 3, 4, 3, 5, 5}, map[uint32][]uint32{0: {5, 3, 4, 3, 5, 5}}},
		{[]uint32{1<<32 - 1, 0, 1<<32 - 64, 1<<32 - 65}, map[uint32][]uint32{1<<32 - 64: {1<<32 - 1, 1<<32 - 64}, 0: {0}, 1<<32 - 128: {1<<32 - 65}}},
		{[]uint32{1 << 31, 1<<31 - 1, 1<<31 + 63}, map[uint32][]uint32{1 << 31: {1 << 31, 1<<31 + 63}, 1<<31 - 64: {1<<31 - 1}}},
	} {
		l := slices.Clone(x.l)
		if got := free.Group(l); !maps.EqualFunc(got, x.want, slices.Equal[[]uint32]) || !slices.Equal(l, x.l) {
			t.Errorf("%v: %v; want %v", x.l, got, x.want)
		}
	}
}

// byBlocks tells l by the blocks, rising, those of each block in the order of l.
func byBlocks(l []uint32) []uint32 {
	return slices.SortedStableFunc(slices.Values(l), func(a, b uint32) int { return cmp.Compare(a/64, b/64) })
}

// More than may be freed at once are put together, too; each is where it belongs, once for each time that it is named.
func TestGroupOfMany(t *testing.T) {
	chance := rand.New(rand.NewSource(26))
	var l, all []uint32
	for range 100000 {
		l = append(l, chance.Uint32()&0xff0003ff)
	}
	g := free.Group(l)
	for _, first := range slices.Sorted(maps.Keys(g)) {
		if some := g[first]; first%64 != 0 || len(some) == 0 || slices.Min(some) < first || slices.Max(some) > first+63 {
			t.Fatalf("of %d: %v", first, some)
		}
		all = append(all, g[first]...)
	}
	if !slices.Equal(all, byBlocks(l)) {
		t.Errorf("%d of %d", len(all), len(l))
	}
}

// What is answered is the caller's own.
func TestGroupsAreApart(t *testing.T) {
	l := at(0, 64, 1, 65, 2)
	g := free.Group(l)
	for first, some := range g {
		clear(some)
		_ = append(some, 9, 9, 9, 9)
		g[first] = nil
	}
	want := map[uint32][]uint32{base: at(0, 1, 2), base + 64: at(64, 65)}
	if again := free.Group(l); !maps.EqualFunc(again, want, slices.Equal[[]uint32]) || !slices.Equal(l, at(0, 64, 1, 65, 2)) {
		t.Errorf("%v of %v", again, l)
	}
	g = free.Group(l)
	_ = append(g[base], 9, 9, 9)
	clear(l)
	if !maps.EqualFunc(g, want, slices.Equal[[]uint32]) {
		t.Errorf("%v, once the list was written into", g)
	}
	free.Group(nil)[base] = l
}

// The example: two of one block, one of another one.
func TestExample(t *testing.T) {
	s := state(6, "n1", "n2")
	wantEnd(t, "the example", s.Do, at(1, 65, 0), freed(1, 0, 65), drops(0, "update", "update"), drops(1, "update"))
}

// By their blocks, rising, whatever the bytes of their keys are; of each block in the order in which they are named.
func TestInOrder(t *testing.T) {
	s := state(6, "n1", "n2", "", "n1")
	l := at(194, 129, 67, 2, 64, 128, 1, 195, 65, 192, 0, 130)
	wantEnd(t, "in order", s.Do, l, freed(2, 1, 0, 67, 64, 65, 129, 128, 130, 194, 195, 192), drops(0, "update", "update"), drops(1, "update", "update"), drops(2, "update", "update"), drops(3, "", "update"))
	wantEnd(t, "all that is left", s.Do, at(5, 4, 3), freed(5, 4, 3), drops(0, "update", "update"))
	// The greatest addresses come last.
	zero, _ := block.New(0, "n1")
	last, _ := block.New(1<<32-1, "n1")
	half, _ := block.New(1<<31, "n1")
	s = kv.New()
	for net, b := range map[string]block.Block{"0.0.0.0-26": zero, "255.255.255.192-26": last, "128.0.0.0-26": half} {
		b, _, _ = block.Assign(b, 64, attrs[0])
		create(s, "block/"+net, put(b))
	}
	l = []uint32{1<<32 - 1, 1 << 31, 0, 1<<32 - 64, 63}
	if got, _ := run(t, l, s.Do); !got.is(ending{[]uint32{0, 63, 1 << 31, 1<<32 - 1, 1<<32 - 64}, api.OK}) {
		t.Errorf("ended with %v", got)
	}
}

// What is not given is passed over, and so is what is named twice.
func TestNotGiven(t *testing.T) {
	wantEnd(t, "none of them", state(2, "n1", "n1").Do, at(2, 63, 66, 130, 64+40), freed(), looks(0), looks(1), looks(2))
	wantEnd(t, "some of them", state(2, "n1", "n1").Do, at(66, 1, 63, 64, 2), freed(1, 64), drops(0, "update"), drops(1, "", "update"))
	wantEnd(t, "named twice", state(2, "n1", "n1").Do, at(1, 65, 1, 65, 0, 1), freed(1, 0, 65), drops(0, "update", "update"), drops(1, "delete"))
	s := state(2, "n1")
	wantEnd(t, "ahead", s.Do, at(1), freed(1), drops(0, "delete"))
	wantEnd(t, "freed already", s.Do, at(1), freed(), looks(0))
	wantEnd(t, "no blocks", kv.New().Do, at(64, 0), freed(), looks(0), looks(1))
}

// A block that is nobody's goes with the last one of its addresses.
func TestNobodysBlock(t *testing.T) {
	s := state(2, "", "n1")
	wantEnd(t, "nobody's", s.Do, at(64, 65, 1, 0), freed(1, 0, 64, 65), looks(0), []string{"update " + keys[0], "delete " + keys[0]}, drops(0, "update", "update")[2:], drops(1, "delete", "delete"))
	if l := s.All(); len(l) != 1 || l[0].Key != keys[1] {
		t.Errorf("left %#v", l)
	}
}

// staleFor tells by s, but refuses each write of key.
func staleFor(s *kv.State, key string) func(o kv.Op) kv.Result {
	return func(o kv.Op) kv.Result {
		if o.Key == key && o.Kind != kv.Get {
			return kv.Result{Code: api.ErrStale}
		}
		return s.Do(o)
	}
}

// What a drop ends with counts as nothing freed there; the first such error is told only if nothing was freed at all.
func TestErrors(t *testing.T) {
	l := at(0, 64, 128)
	tired := slices.Repeat(drops(1), api.Retries)
	one := drops(0, "", "update")
	for _, x := range []struct {
		what  string
		bad   []int
		given int
		want  ending
		asked [][]string
	}{
		{"none", nil, 2, freed(0, 64, 128), [][]string{one, drops(1, "", "update"), drops(2, "", "delete")}},
		{"the first one", []int{0}, 2, freed(64, 128), [][]string{looks(0), drops(1, "", "update"), drops(2, "", "update")}},
		{"the last one", []int{2}, 2, freed(0, 64), [][]string{one, drops(1, "", "update"), looks(2)}},
		{"all but the first one", []int{1, 2}, 2, freed(0), [][]string{one, looks(1), looks(2)}},
		{"all", []int{0, 1, 2}, 2, failed(api.ErrForm), [][]string{looks(0), looks(1), looks(2)}},
		{"one, and nothing is given", []int{1}, 0, failed(api.ErrForm), [][]string{looks(0), looks(1), looks(2)}},
		{"the last one, and nothing is given", []int{2}, 0, failed(api.ErrForm), [][]string{looks(0), looks(1), looks(2)}},
		{"none, and nothing is given", nil, 0, freed(), [][]string{looks(0), looks(1), looks(2)}},
	} {
		s := state(x.given, "n1", "n1", "n1")
		for _, k := range x.bad {
			set(s, keys[k], "")
		}
		wantEnd(t, x.what, s.Do, l, x.want, x.asked...)
	}
	// Which one is told is the first one's.
	s := state(2, "n1", "n1", "n1")
	set(s, keys[2], "")
	set(s, keys[0], "B")
	wantEnd(t, "tired, then bad", staleFor(s, keys[1]), at(64, 128), failed(api.ErrTired), tired, looks(2))
	wantEnd(t, "bad, then tired", staleFor(s, keys[1]), at(0, 64), failed(api.ErrForm), looks(0), tired)
	set(s, keys[0], s.Do(get(keys[1])).Val)
	wantEnd(t, "nothing, then tired, then bad", staleFor(s, keys[1]), at(63, 64, 128), failed(api.ErrTired), looks(0), tired, looks(2))
	s = state(2, "n1", "n1", "n1")
	set(s, keys[2], "")
	wantEnd(t, "one, then tired, then bad", staleFor(s, keys[1]), l, freed(0), one, tired, looks(2))
}

// How taking back ends counts for nothing.
func TestHandlesThatFail(t *testing.T) {
	s := state(2, "n1", "n1")
	set(s, "handle/h2", "H")
	wantEnd(t, "a handle that says nothing", s.Do, at(0, 64), freed(0, 64), looks(0), []string{"update " + keys[0], "get handle/h2"}, looks(1), []string{"update " + keys[1], "get handle/h2"})
	s = state(2, "n1", "n1")
	back := slices.Repeat([]string{"get handle/h2", "update handle/h2"}, api.Retries)
	wantEnd(t, "tired", staleFor(s, "handle/h2"), at(0, 64), freed(0, 64), drops(0), back, drops(1), back)
}

// Wherever the disk goes away: the end, with none.
func TestLost(t *testing.T) {
	l := at(128, 65, 1, 0, 64, 2, 192)
	fresh := func() *kv.State { return state(3, "", "n2", "", "n1") }
	_, whole := run(t, l, fresh().Do)
	for k := range whole {
		s, steps := fresh(), 0
		got, asked := run(t, l, func(o kv.Op) kv.Result {
			steps++
			r := s.Do(o)
			if steps == k+1 {
				// What else is told beside it does not count.
				r.Code = api.ErrLost
			}
			return r
		})
		if !got.is(failed(api.ErrLost)) || !slices.Equal(asked, whole[:k+1]) {
			t.Errorf("lost at the step %d: ended with %v behind %q", k, got, spelt(asked))
		}
	}
	if len(whole) != 4*2+1+6*2 {
		t.Errorf("%d steps: %q", len(whole), spelt(whole))
	}
	// Behind an error, too.
	s := state(2, "n1", "n1")
	set(s, keys[0], "")
	wantEnd(t, "lost behind an error", func(o kv.Op) kv.Result {
		if o.Key == keys[1] {
			return kv.Result{Code: api.ErrLost}
		}
		return s.Do(o)
	}, at(0, 64), failed(api.ErrLost), looks(0), looks(1))
}

// many tells so many addresses, each of a block of its own, or as many of each as there are.
func many(n int, apart uint32) []uint32 {
	var l []uint32
	for k := range uint32(n) {
		l = append(l, base+k*apart)
	}
	return l
}

func TestMany(t *testing.T) {
	for _, apart := range []uint32{0, 1, 64, 1 << 20} {
		for _, n := range []int{4095, 4096} {
			l := many(n, apart)
			got, asked := run(t, l, kv.New().Do)
			if want := len(free.Group(l)); !got.is(freed()) || len(asked) != want {
				t.Errorf("%d: ended with %v behind %d steps; want %d", n, got, len(asked), want)
			}
		}
	}
	// All of 64 blocks are freed.
	s := kv.New()
	l := many(4096, 1)
	for k := 0; k < len(l); k += 64 {
		b, _ := block.New(l[k], "n1")
		b, _, _ = block.Assign(b, 64, attrs[0])
		create(s, names.Block(l[k]), put(b))
	}
	if got, asked := run(t, l, s.Do); !got.is(ending{l, api.OK}) || len(asked) != 64*3 {
		t.Errorf("ended with %d, %d behind %d steps", len(got.l), got.e, len(asked))
	}
}

// At once: what is refused, and what has nothing to be freed.
func TestAtOnce(t *testing.T) {
	for _, x := range []struct {
		l []uint32
		e api.Errno
	}{{nil, api.OK}, {[]uint32{}, api.OK}, {at(1)[:0], api.OK}, {many(4097, 0), api.ErrArg}, {many(4097, 1), api.ErrArg}, {many(100000, 64), api.ErrArg}} {
		for _, p := range []*mach.Proc{nil, mach.New()} {
			var ends []ending
			ahead := get("ahead")
			p.Ask(ahead, nil)
			free.Go(p, x.l, func(l []uint32, e api.Errno) { ends = append(ends, ending{l, e}) })
			if !slices.EqualFunc(ends, []ending{failed(x.e)}, ending.is) {
				t.Errorf("of %d: ended %v", len(x.l), ends)
			}
			if o, asks := p.Op(); p != nil && (!asks || o != ahead) {
				t.Errorf("of %d: asks %#v, %v", len(x.l), o, asks)
			}
			free.Go(p, x.l, nil)
		}
	}
}

func TestNoProcedure(t *testing.T) {
	for _, l := range [][]uint32{at(0), at(0, 64, 1), many(4096, 64)} {
		free.Go(nil, l, func(l []uint32, e api.Errno) { t.Errorf("without a procedure it ended: %v, %d", l, e) })
		free.Go(nil, l, nil)
	}
}

// Nobody needs to be called at the end.
func TestNoThen(t *testing.T) {
	for _, told := range []kv.Result{{Code: api.ErrNone}, {Code: api.ErrLost}, {Code: api.ErrStale}, {}, {Val: "B"}} {
		p := mach.New()
		free.Go(p, at(0, 64), nil)
		if !mach.Run(p, func(kv.Op) kv.Result { return told }, 2*drop.Bound(0)) {
			t.Errorf("told %#v it goes on", told)
		}
	}
	s, p := state(2, "", ""), mach.New()
	free.Go(p, at(0, 64, 1, 65), nil)
	if !mach.Run(p, s.Do, 14) || s.Len() != 0 {
		t.Errorf("nobody is called: %#v", s.All())
	}
}

// What is handed in is not changed, and not kept; what is told is the caller's own.
func TestLists(t *testing.T) {
	s, p := state(3, "n1", "n1"), mach.New()
	l := at(65, 1, 64, 0)
	var told []uint32
	free.Go(p, l, func(l []uint32, e api.Errno) { told = l })
	if !slices.Equal(l, at(65, 1, 64, 0)) {
		t.Errorf("changed to %v", l)
	}
	for k := range l {
		l[k] = base + 2
	}
	if !mach.Run(p, s.Do, 99) || !slices.Equal(told, at(1, 0, 65, 64)) || !slices.Equal(l, at(2, 2, 2, 2)) {
		t.Errorf("freed %v, once the list was written into; that is %v", told, l)
	}
}

// At the end the procedure asks nothing: whoever is called may ask by it anew, and write into what was told.
func TestOneBehindAnother(t *testing.T) {
	s, p := state(3, "n1", "n2"), mach.New()
	l := [][]uint32{at(0, 65), nil, at(1, 0), at(64, 66), make([]uint32, 4097), at(2), at(2)}
	want := []ending{freed(0, 65), freed(), freed(1), freed(64, 66), failed(api.ErrArg), freed(2), freed()}
	var ends []ending
	var on func(freed []uint32, e api.Errno)
	on = func(freed []uint32, e api.Errno) {
		ends = append(ends, ending{slices.Clone(freed), e})
		clear(freed)
		_ = append(freed[:0], 7, 7, 7)
		if len(ends) < len(l) {
			free.Go(p, l[len(ends)], on)
		}
	}
	free.Go(p, l[0], on)
	if !mach.Run(p, s.Do, 99) || !slices.EqualFunc(ends, want, ending.is) || s.Len() != 2 {
		t.Errorf("ended %v by %d steps: %#v", ends, p.Steps(), s.All())
	}
}

// What it asked ahead is not asked any more.
func TestInPlaceOfAnother(t *testing.T) {
	p := mach.New()
	p.Ask(get("ahead"), func(kv.Result) { t.Error("what was asked ahead goes on") })
	free.Go(p, at(64, 0), nil)
	if o, asks := p.Op(); !asks || o != get(keys[0]) {
		t.Errorf("asks %#v, %v", o, asks)
	}
}

// Alone it frees just those that are given; nothing else that is given changes, and handles have as many fewer.
func TestAlone(t *testing.T) {
	chance := rand.New(rand.NewSource(2613))
	affs := []string{"", "n1", "n2"}
	for range 2000 {
		s := state(chance.Intn(9), affs[chance.Intn(3)], affs[chance.Intn(3)], affs[chance.Intn(3)])
		for range 1 + chance.Intn(3) {
			var l []uint32
			for range chance.Intn(20) {
				l = append(l, base-64+64*uint32(chance.Intn(5))+uint32(chance.Intn(10)))
			}
			wantAlone(t, s, l)
		}
	}
}

// wantAlone holds what freeing l alone does to s.
func wantAlone(t *testing.T, s *kv.State, l []uint32) {
	t.Helper()
	v, e := view.Of(s.All())
	if e != api.OK {
		t.Fatalf("there is what is no record: %#v", s.All())
	}
	left := v.Given()
	var want []uint32
	for _, addr := range l {
		if _, given := left[addr]; given {
			delete(left, addr)
			want = append(want, addr)
		}
	}
	want = byBlocks(want)
	got, _ := run(t, l, s.Do)
	after, e := view.Of(s.All())
	if !got.is(ending{want, api.OK}) || e != api.OK || !maps.Equal(after.Given(), left) || !countsAre(after) {
		t.Fatalf("%v: ended with %v; want %v; left %#v", l, got, want, s.All())
	}
	for _, b := range v.Blocks {
		now, there := after.Block(b.Addr)
		lost := len(free.Group(want)[b.Addr])
		goes := lost > 0 && lost == len(b.Given()) && b.Aff == ""
		if there == goes || there && now.Aff != b.Aff || there && lost == 0 && !block.Same(now, b) {
			t.Fatalf("%v: of %v there is %v, %v", l, b, now, there)
		}
	}
}

// countsAre tells whether each handle has just what is given under it.
func countsAre(v view.View) bool {
	had := map[string]handle.Handle{}
	for addr, a := range v.Given() {
		had[a.Handle], _ = handle.Add(had[a.Handle], addr, 1)
	}
	return maps.EqualFunc(v.Handles, had, func(a, b handle.Handle) bool { return slices.Equal(a.Counts, b.Counts) })
}
