package byhand_test

import (
	"maps"
	"math/rand"
	"slices"
	"strings"
	"testing"

	"virgate/api"
	"virgate/block"
	"virgate/byhand"
	"virgate/drop"
	"virgate/handle"
	"virgate/image"
	"virgate/kv"
	"virgate/mach"
	"virgate/names"
	"virgate/view"
)

// base is the first address of the first one of most blocks.
const base = 10 << 24

// The blocks, by their addresses, as they stand in keys; these go by their bytes another way.
var (
	firsts = []uint32{base, base + 64, base + 128, base + 192}
	keys   = []string{"block/10.0.0.0-26", "block/10.0.0.64-26", "block/10.0.0.128-26", "block/10.0.0.192-26"}
)

// handKey is the key of the handle that most is done with.
const handKey = "handle/h1"

// at tells addresses from base on.
func at(l ...uint32) []uint32 {
	var all []uint32
	for _, k := range l {
		all = append(all, base+k)
	}
	return all
}

// attrs are under which addresses are given in turn, from the first one of each block on: the first and the third one of three are h1's.
var attrs = []block.Attr{{Handle: "h1", Node: "n1"}, {Handle: "h2", Node: "n1"}, {Handle: "h1", Node: "n2"}}

// state tells a state of as many blocks as affs has, each of which is that one's, and in each of which the first n addresses are given; the handles have just that.
func state(n int, affs ...string) *kv.State {
	s := kv.New()
	hands := map[string]handle.Handle{}
	for k, aff := range affs {
		b, _ := block.New(firsts[k], aff)
		for i := range n {
			a := attrs[i%len(attrs)]
			b, _, _ = block.Assign(b, 1, a)
			hands[a.Handle], _ = handle.Add(hands[a.Handle], firsts[k], 1)
		}
		create(s, keys[k], put(b))
	}
	for _, id := range slices.Sorted(maps.Keys(hands)) {
		create(s, "handle/"+id, counted(hands[id].Counts...))
	}
	return s
}

func put(b block.Block) string {
	val, e := image.Put(b)
	if e != api.OK {
		panic("a block that is not right")
	}
	return val
}

// counted tells the bytes of a handle that has these.
func counted(l ...handle.Count) string {
	val, e := handle.Put(handle.Handle{Counts: l})
	if e != api.OK {
		panic("a handle that is not right")
	}
	return val
}

func create(s *kv.State, key, val string) { s.Do(kv.Op{Kind: kv.Create, Key: key, Val: val}) }

func get(key string) kv.Op { return kv.Op{Kind: kv.Get, Key: key} }

// set lets key have val, whatever it had; what has - is not there.
func set(s *kv.State, key, val string) {
	s.Do(kv.Op{Kind: kv.Delete, Key: key, Rev: s.Do(get(key)).Rev})
	if val != "-" {
		create(s, key, val)
	}
}

// ending is what somebody ended with.
type ending struct {
	l []uint32
	e api.Errno
}

func (x ending) is(y ending) bool { return x.e == y.e && slices.Equal(x.l, y.l) }

func found(l ...uint32) ending { return ending{at(l...), api.OK} }

func failed(e api.Errno) ending { return ending{nil, e} }

// begins is one of both: a handle is freed, or looked up.
type begins func(p *mach.Proc, id string, then func(l []uint32, e api.Errno))

// both tells both, by what each does.
func both() map[string]begins {
	return map[string]begins{"free": byhand.Go, "look up": byhand.Look}
}

// run does that with the handle id by what do tells, and tells how that ended, and what was asked.
func run(t *testing.T, begin begins, id string, do func(o kv.Op) kv.Result) (ending, []kv.Op) {
	t.Helper()
	var ends []ending
	var asked []kv.Op
	p := mach.New()
	begin(p, id, func(l []uint32, e api.Errno) { ends = append(ends, ending{l, e}) })
	done := mach.Run(p, func(o kv.Op) kv.Result {
		if len(ends) != 0 {
			t.Errorf("%s: ended %v, and asks %#v", id, ends, o)
		}
		asked = append(asked, o)
		return do(o)
	}, 99999)
	if !done || len(ends) != 1 {
		t.Fatalf("%s: ended %v, %v", id, done, ends)
	}
	return ends[0], asked
}

// spelt tells what was asked, as text.
func spelt(l []kv.Op) []string {
	var said []string
	for _, o := range l {
		said = append(said, []string{"", "get ", "list ", "create ", "update ", "delete "}[o.Kind]+o.Key)
	}
	return said
}

// wantEnd holds how that ends with h1, and, part by part, what is asked for that, once the handle was asked for.
func wantEnd(t *testing.T, what string, do func(o kv.Op) kv.Result, begin begins, want ending, parts ...[]string) {
	t.Helper()
	got, asked := run(t, begin, "h1", do)
	if !got.is(want) {
		t.Errorf("%s: ended with %v; want %v", what, got, want)
	}
	l := append([]string{"get " + handKey}, slices.Concat(parts...)...)
	if !slices.Equal(spelt(asked), l) {
		t.Errorf("%s: asked %q; want %q", what, spelt(asked), l)
	}
}

// drops tells what is asked to free all of h1 in the k-th block; by of what is done to the handle.
func drops(k int, by string) []string {
	return []string{"get " + keys[k], "update " + keys[k], "get " + handKey, by + " " + handKey}
}

// looks tells what is asked to look up these blocks.
func looks(l ...int) []string {
	var said []string
	for _, k := range l {
		said = append(said, "get "+keys[k])
	}
	return said
}

// The example: a handle of two addresses of one block.
func TestExample(t *testing.T) {
	s := kv.New()
	b, _ := block.New(base, "n1")
	b, _, _ = block.Assign(b, 2, attrs[0])
	create(s, keys[0], put(b))
	create(s, handKey, counted(handle.Count{Block: base, N: 2}))
	wantEnd(t, "looked up", s.Do, byhand.Look, found(0, 1), looks(0))
	wantEnd(t, "freed", s.Do, byhand.Go, found(0, 1), drops(0, "delete"))
	b, _ = image.Read(s.Do(get(keys[0])).Val)
	if s.Len() != 1 || !b.Empty() || b.Aff != "n1" {
		t.Errorf("left %#v", s.All())
	}
	wantEnd(t, "freed once more", s.Do, byhand.Go, failed(api.ErrNone))
	wantEnd(t, "looked up behind that", s.Do, byhand.Look, failed(api.ErrNone))
}

// By the Counts, whatever the bytes of the blocks' keys are, whosever these are; for whatever node.
func TestInOrder(t *testing.T) {
	s := state(6, "n1", "n2", "", "n1")
	all := found(0, 2, 3, 5, 64, 66, 67, 69, 128, 130, 131, 133, 192, 194, 195, 197)
	wantEnd(t, "looked up", s.Do, byhand.Look, all, looks(0, 1, 2, 3))
	wantEnd(t, "freed", s.Do, byhand.Go, all, drops(0, "update"), drops(1, "update"), drops(2, "update"), drops(3, "delete"))
	v, _ := view.Of(s.All())
	if h := v.Handles["h2"]; len(v.Given()) != 8 || h.Total() != 8 || len(v.Handles) != 1 {
		t.Errorf("left %#v", s.All())
	}
	// In which order they were given does not count.
	s = kv.New()
	b, _ := block.New(base, "n1")
	for _, k := range []uint32{40, 3, 63, 0} {
		b, _ = block.AssignAt(b, base+k, attrs[k%2])
	}
	create(s, keys[0], put(b))
	create(s, handKey, counted(handle.Count{Block: base, N: 2}))
	wantEnd(t, "looked up", s.Do, byhand.Look, found(0, 40), looks(0))
	wantEnd(t, "freed", s.Do, byhand.Go, found(0, 40), drops(0, "delete"))
}

// A block that is nobody's goes with the last one of its addresses.
func TestNobodysBlock(t *testing.T) {
	s := state(1, "", "n1")
	wantEnd(t, "nobody's", s.Do, byhand.Go, found(0, 64), []string{"get " + keys[0], "update " + keys[0], "delete " + keys[0], "get " + handKey, "update " + handKey}, drops(1, "delete"))
	if l := s.All(); len(l) != 1 || l[0].Key != keys[1] {
		t.Errorf("left %#v", l)
	}
}

// What the handle does not count is not gone to; what it counts, and is not given, is none.
func TestCounts(t *testing.T) {
	s := state(3, "n1", "n1", "n1")
	set(s, handKey, counted(handle.Count{Block: base + 64, N: 1}))
	wantEnd(t, "too few, looked up", s.Do, byhand.Look, found(64, 66), looks(1))
	wantEnd(t, "too few, freed", s.Do, byhand.Go, found(64, 66), drops(1, "delete"))
	set(s, handKey, counted(handle.Count{Block: base, N: 70}, handle.Count{Block: base + 64, N: 1}, handle.Count{Block: base + 192, N: 9}))
	wantEnd(t, "too many, looked up", s.Do, byhand.Look, found(0, 2), looks(0, 1, 3))
	wantEnd(t, "too many, freed", s.Do, byhand.Go, found(0, 2), drops(0, "update"), looks(1, 3))
	left := counted(handle.Count{Block: base, N: 68}, handle.Count{Block: base + 64, N: 1}, handle.Count{Block: base + 192, N: 9})
	if val := s.Do(get(handKey)).Val; val != left {
		t.Errorf("the handle is %q", val)
	}
	wantEnd(t, "nothing is given, looked up", s.Do, byhand.Look, found(), looks(0, 1, 3))
	wantEnd(t, "nothing is given, freed", s.Do, byhand.Go, found(), looks(0, 1, 3))
	set(s, handKey, counted())
	wantEnd(t, "no Counts, looked up", s.Do, byhand.Look, found())
	wantEnd(t, "no Counts, freed", s.Do, byhand.Go, found())
	// The greatest addresses are those of a block, too.
	for _, first := range []uint32{0, 1<<32 - 64} {
		s = kv.New()
		b, _ := block.New(first, "")
		b, all, _ := block.Assign(b, 64, attrs[2])
		create(s, names.Block(first), put(b))
		create(s, handKey, counted(handle.Count{Block: first, N: 64}))
		for _, begin := range []begins{byhand.Look, byhand.Go} {
			if got, _ := run(t, begin, "h1", s.Do); !got.is(ending{all, api.OK}) {
				t.Errorf("of %d: ended with %v", first, got)
			}
		}
		if s.Len() != 0 {
			t.Errorf("left %#v", s.All())
		}
	}
}

// Handles of names that begin alike are others.
func TestOtherHandles(t *testing.T) {
	s := kv.New()
	b, _ := block.New(base, "n1")
	for k, id := range []string{"h", "h1", "h11", "h1", "H1"} {
		b, _ = block.AssignAt(b, base+uint32(k), block.Attr{Handle: id, Node: "h1"})
	}
	create(s, keys[0], put(b))
	for _, id := range []string{"h", "h1", "h11", "H1"} {
		create(s, "handle/"+id, counted(handle.Count{Block: base, N: 2}))
	}
	wantEnd(t, "looked up", s.Do, byhand.Look, found(1, 3), looks(0))
	wantEnd(t, "freed", s.Do, byhand.Go, found(1, 3), drops(0, "delete"))
	v, _ := view.Of(s.All())
	if len(v.Given()) != 3 || len(v.Handles) != 3 {
		t.Errorf("left %#v", s.All())
	}
}

// Without a handle that can be read nothing is done.
func TestNoHandle(t *testing.T) {
	for what, begin := range both() {
		for _, val := range []string{"", "H", "H\x00", "H\x00\x00x", "L", "H\x00\x01\x0a\x00\x00\x00\x00\x00", "H\x00\x01\x0a\x00\x00\x01\x00\x01"} {
			s := state(3, "n1")
			set(s, handKey, val)
			wantEnd(t, what+" what says nothing", s.Do, begin, failed(api.ErrForm))
		}
		s := state(3, "n1")
		set(s, handKey, "-")
		wantEnd(t, what+" none", s.Do, begin, failed(api.ErrNone))
		// Refused, it is not there, whatever else is told.
		for _, e := range []api.Errno{api.ErrNone, api.ErrNil, api.ErrArg, -1} {
			told := kv.Result{Code: e, Rev: 3, Val: counted(handle.Count{Block: base, N: 2})}
			wantEnd(t, what+" what is refused", func(kv.Op) kv.Result { return told }, begin, failed(api.ErrNone))
		}
	}
}

// What a drop ends with counts as nothing freed there; the first such error is told only if nothing was freed at all.
func TestErrorsOfDrops(t *testing.T) {
	bad := func(n int, l ...int) *kv.State {
		s := state(n, "n1", "n1", "n1")
		for _, k := range l {
			set(s, keys[k], "B")
		}
		return s
	}
	stale := func(s *kv.State, key string) func(o kv.Op) kv.Result {
		return func(o kv.Op) kv.Result {
			if o.Key == key && o.Kind != kv.Get {
				return kv.Result{Code: api.ErrStale}
			}
			return s.Do(o)
		}
	}
	tired := func(k int) []string { return slices.Repeat(drops(k, "")[:2], api.Retries) }
	wantEnd(t, "the first one", bad(2, 0).Do, byhand.Go, found(64, 128), looks(0), drops(1, "update"), drops(2, "update"))
	wantEnd(t, "the last one", bad(2, 2).Do, byhand.Go, found(0, 64), drops(0, "update"), drops(1, "update"), looks(2))
	wantEnd(t, "all but one", bad(2, 0, 2).Do, byhand.Go, found(64), looks(0), drops(1, "update"), looks(2))
	wantEnd(t, "all", bad(2, 0, 1, 2).Do, byhand.Go, failed(api.ErrForm), looks(0, 1, 2))
	wantEnd(t, "tired, then bad", stale(bad(2, 0, 2), keys[1]), byhand.Go, failed(api.ErrForm), looks(0), tired(1), looks(2))
	wantEnd(t, "bad behind tired", stale(bad(2, 1, 2), keys[0]), byhand.Go, failed(api.ErrTired), tired(0), looks(1, 2))
	wantEnd(t, "one, and tired", stale(bad(2, 2), keys[1]), byhand.Go, found(0), drops(0, "update"), tired(1), looks(2))
	s := bad(2, 1)
	set(s, keys[0], "-")
	set(s, keys[2], "-")
	wantEnd(t, "nothing is given, and one is bad", s.Do, byhand.Go, failed(api.ErrForm), looks(0, 1, 2))
	// How taking back ends counts for nothing.
	back := slices.Repeat(drops(0, "update")[2:], api.Retries)
	wantEnd(t, "a handle that is stale", stale(state(2, "n1", "n1"), handKey), byhand.Go, found(0, 64), drops(0, "")[:2], back, drops(1, "")[:2], back)
}

// A block that is not there, or says nothing, is passed over.
func TestLookPassesOver(t *testing.T) {
	for _, val := range []string{"-", "", "B", "L", "A\x02"} {
		s := state(3, "n1", "", "n2")
		set(s, keys[1], val)
		wantEnd(t, "one of three", s.Do, byhand.Look, found(0, 2, 128, 130), looks(0, 1, 2))
		set(s, keys[0], val)
		set(s, keys[2], val)
		wantEnd(t, "all three", s.Do, byhand.Look, found(), looks(0, 1, 2))
	}
	// What is refused is not there, whatever else is told.
	for _, e := range []api.Errno{api.ErrNil, api.ErrArg, api.ErrNone, -1} {
		s := state(3, "n1", "n1")
		wantEnd(t, "refused", func(o kv.Op) kv.Result {
			r := s.Do(o)
			if o.Key == keys[0] {
				r.Code = e
			}
			return r
		}, byhand.Look, found(64, 66), looks(0, 1))
	}
}

// Wherever the disk goes away: the end, with none.
func TestLost(t *testing.T) {
	fresh := func() *kv.State { return state(3, "", "n2", "", "n1") }
	for what, begin := range both() {
		_, whole := run(t, begin, "h1", fresh().Do)
		for k := range whole {
			s, steps := fresh(), 0
			got, asked := run(t, begin, "h1", func(o kv.Op) kv.Result {
				steps++
				r := s.Do(o)
				if steps == k+1 {
					// What else is told beside it does not count.
					r.Code = api.ErrLost
				}
				return r
			})
			if !got.is(failed(api.ErrLost)) || !slices.Equal(asked, whole[:k+1]) {
				t.Errorf("%s: lost at the step %d: ended with %v behind %q", what, k, got, spelt(asked))
			}
		}
		if n := map[string]int{"free": 1 + 4*4, "look up": 1 + 4}[what]; len(whole) != n {
			t.Errorf("%s: %d steps: %q", what, len(whole), spelt(whole))
		}
		// Behind an error, too.
		s := fresh()
		set(s, keys[0], "")
		wantEnd(t, what+": lost behind an error", func(o kv.Op) kv.Result {
			if o.Key == keys[1] {
				return kv.Result{Code: api.ErrLost}
			}
			return s.Do(o)
		}, begin, failed(api.ErrLost), looks(0, 1))
	}
}

// As many blocks as a handle can have.
func TestMany(t *testing.T) {
	var l []handle.Count
	for k := range uint32(4096) {
		l = append(l, handle.Count{Block: 64 * 4099 * k, N: 1})
	}
	s := kv.New()
	create(s, handKey, counted(l...))
	var want []uint32
	for _, k := range []int{7, 8, 4000, 4095} {
		b, _ := block.New(l[k].Block, "")
		b, _ = block.AssignAt(b, l[k].Block+uint32(k%64), attrs[0])
		create(s, names.Block(l[k].Block), put(b))
		want = append(want, l[k].Block+uint32(k%64))
	}
	if got, asked := run(t, byhand.Look, "h1", s.Do); !got.is(ending{want, api.OK}) || len(asked) != 4097 {
		t.Errorf("looked up: ended with %v behind %d steps", got, len(asked))
	}
	if got, asked := run(t, byhand.Go, "h1", s.Do); !got.is(ending{want, api.OK}) || len(asked) != 4097+4*4 || s.Len() != 1 {
		t.Errorf("freed: ended with %v behind %d steps", got, len(asked))
	}
}

func TestNames(t *testing.T) {
	for what, begin := range both() {
		for _, id := range []string{"", "a/b", "a b", "é", "\xff", "h1\n", "/", strings.Repeat("h", api.MaxText+1)} {
			for _, p := range []*mach.Proc{nil, mach.New()} {
				var ends []ending
				ahead := get("ahead")
				p.Ask(ahead, nil)
				begin(p, id, func(l []uint32, e api.Errno) { ends = append(ends, ending{l, e}) })
				if !slices.EqualFunc(ends, []ending{failed(api.ErrArg)}, ending.is) {
					t.Errorf("%s %q: ended %v", what, id, ends)
				}
				if o, asks := p.Op(); p != nil && (!asks || o != ahead) {
					t.Errorf("%s %q: asks %#v, %v", what, id, o, asks)
				}
				begin(p, id, nil)
			}
		}
		for _, id := range []string{"h", "A.b-c_9", strings.Repeat("h", api.MaxText)} {
			s := kv.New()
			b, _ := block.New(base, "n1")
			b, _ = block.AssignAt(b, base+5, block.Attr{Handle: id, Node: "n1"})
			create(s, keys[0], put(b))
			create(s, "handle/"+id, counted(handle.Count{Block: base, N: 1}))
			if got, _ := run(t, begin, id, s.Do); !got.is(found(5)) {
				t.Errorf("%s %q: ended with %v", what, id, got)
			}
		}
	}
}

func TestNoProcedure(t *testing.T) {
	for what, begin := range both() {
		begin(nil, "h1", func(l []uint32, e api.Errno) { t.Errorf("%s: without a procedure it ended: %v, %d", what, l, e) })
		begin(nil, "h1", nil)
	}
}

// Nobody needs to be called at the end.
func TestNoThen(t *testing.T) {
	for what, begin := range both() {
		for _, told := range []kv.Result{{Code: api.ErrNone}, {Code: api.ErrLost}, {Code: api.ErrStale}, {}, {Val: "H\x00\x00"}, {Val: counted(handle.Count{Block: base, N: 2})}} {
			p := mach.New()
			begin(p, "h1", nil)
			if !mach.Run(p, func(kv.Op) kv.Result { return told }, 1+drop.Bound(1)) {
				t.Errorf("%s: told %#v it goes on", what, told)
			}
		}
	}
	s, p := state(1, "", ""), mach.New()
	byhand.Go(p, "h1", nil)
	if !mach.Run(p, s.Do, 11) || s.Len() != 0 {
		t.Errorf("nobody is called: %#v", s.All())
	}
}

// At the end the procedure asks nothing: whoever is called may ask by it anew, and write into what was told.
func TestOneBehindAnother(t *testing.T) {
	s, p := state(3, "n1", "n2"), mach.New()
	l := []struct {
		begin begins
		id    string
		want  ending
	}{
		{byhand.Look, "h1", found(0, 2, 64, 66)},
		{byhand.Look, "", failed(api.ErrArg)},
		{byhand.Look, "h2", found(1, 65)},
		{byhand.Go, "h1", found(0, 2, 64, 66)},
		{byhand.Look, "h1", failed(api.ErrNone)},
		{byhand.Go, "h2", found(1, 65)},
		{byhand.Go, "h2", failed(api.ErrNone)},
	}
	ends := 0
	var on func(told []uint32, e api.Errno)
	on = func(told []uint32, e api.Errno) {
		if got := (ending{told, e}); !got.is(l[ends].want) {
			t.Errorf("the end %d is %v", ends, got)
		}
		clear(told)
		_ = append(told[:0], 7, 7, 7)
		if ends++; ends < len(l) {
			l[ends].begin(p, l[ends].id, on)
		}
	}
	l[0].begin(p, l[0].id, on)
	if !mach.Run(p, s.Do, 99) || ends != len(l) || s.Len() != 2 {
		t.Errorf("ended %d times by %d steps: %#v", ends, p.Steps(), s.All())
	}
}

// What it asked ahead is not asked any more.
func TestInPlaceOfAnother(t *testing.T) {
	for what, begin := range both() {
		p := mach.New()
		p.Ask(get("ahead"), func(kv.Result) { t.Error("what was asked ahead goes on") })
		begin(p, "h1", nil)
		if o, asks := p.Op(); !asks || o != get(handKey) {
			t.Errorf("%s: asks %#v, %v", what, o, asks)
		}
	}
}

// Alone, of a handle that has what blocks say, just what is given under it is freed, and it is gone; nothing else that is given changes. Looking up tells the same, and changes nothing.
func TestAlone(t *testing.T) {
	chance := rand.New(rand.NewSource(27))
	affs := []string{"", "n1", "n2"}
	for range 2000 {
		s := state(chance.Intn(9), affs[chance.Intn(3)], affs[chance.Intn(3)], affs[chance.Intn(3)])
		for range chance.Intn(4) {
			p := mach.New()
			drop.Go(p, firsts[chance.Intn(3)], drop.What{Kind: drop.List, L: at(uint32(chance.Intn(160)))}, nil)
			mach.Run(p, s.Do, 99)
		}
		wantAlone(t, s, "h1")
		wantAlone(t, s, "h2")
	}
}

// wantAlone holds what looking up, and then freeing the handle id does to s.
func wantAlone(t *testing.T, s *kv.State, id string) {
	t.Helper()
	v, e := view.Of(s.All())
	if e != api.OK {
		t.Fatalf("there is what is no record: %#v", s.All())
	}
	left := v.Given()
	want := failed(api.ErrNone)
	for _, addr := range slices.Sorted(maps.Keys(left)) {
		if left[addr].Handle == id {
			delete(left, addr)
			want = ending{append(want.l, addr), api.OK}
		}
	}
	rev := s.Rev()
	if got, _ := run(t, byhand.Look, id, s.Do); !got.is(want) || s.Rev() != rev {
		t.Fatalf("%s is looked up: ended with %v; want %v; left %#v", id, got, want, s.All())
	}
	hands := maps.Clone(v.Handles)
	delete(hands, id)
	got, _ := run(t, byhand.Go, id, s.Do)
	after, e := view.Of(s.All())
	same := func(a, b handle.Handle) bool { return slices.Equal(a.Counts, b.Counts) }
	if !got.is(want) || e != api.OK || !maps.Equal(after.Given(), left) || !maps.EqualFunc(after.Handles, hands, same) {
		t.Fatalf("%s is freed: ended with %v; want %v; left %#v", id, got, want, s.All())
	}
	for _, b := range v.Blocks {
		now, there := after.Block(b.Addr)
		had := slices.ContainsFunc(want.l, func(addr uint32) bool { return addr&^63 == b.Addr })
		goes := had && b.Aff == "" && len(now.Given()) == 0
		if there == goes || there && now.Aff != b.Aff || there && !had && !block.Same(now, b) {
			t.Fatalf("%s is freed: of %v there is %v, %v", id, b, now, there)
		}
	}
}
