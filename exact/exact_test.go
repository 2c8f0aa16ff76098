package exact_test

import (
	"maps"
	"slices"
	"strings"
	"testing"

	"virgate/api"
	"virgate/block"
	"virgate/exact"
	"virgate/handle"
	"virgate/image"
	"virgate/kv"
	"virgate/mach"
	"virgate/view"
)

// base is the first address of the block of which most addresses are given; the keys are those of it, of n1 and of h1, written by hand.
const (
	base    = 10 << 24
	poolKey = "pool/10.0.0.0-24"
	nodeKey = "node/n1"
	affKey  = "aff/n1/10.0.0.0-26"
	blkKey  = "block/10.0.0.0-26"
	handKey = "handle/h1"
)

// Records, as bytes written by hand.
const (
	openPool   = "P\x0a\x00\x00\x00\x18\x01"
	closedPool = "P\x0a\x00\x00\x00\x18\x00"
	present    = "N\x00"
	gone       = "N\x01"
	pending    = "A\x01"
	confirmed  = "A\x02"
	leaving    = "A\x03"
)

// a is under which attribute most is given.
var a = block.Attr{Handle: "h1", Node: "n1"}

// records are what there is, by the keys; what has - is not there.
type records map[string]string

// state tells a state of an open pool, of n1 and n2, and of all that m has beside or in place of them.
func state(m records) *kv.State {
	all := records{poolKey: openPool, nodeKey: present, "node/n2": present}
	maps.Copy(all, m)
	s := kv.New()
	for _, key := range slices.Sorted(maps.Keys(all)) {
		if all[key] != "-" {
			s.Do(kv.Op{Kind: kv.Create, Key: key, Val: all[key]})
		}
	}
	return s
}

// given tells the bytes of the block of addr that is aff's, and of which n addresses are given under two attributes.
func given(addr uint32, aff string, n int) string {
	b, _ := block.New(addr, aff)
	b, _, _ = block.Assign(b, n/2, block.Attr{Handle: "h1", Node: "n2"})
	b, _, _ = block.Assign(b, n-n/2, block.Attr{Handle: "h2", Node: "n1"})
	val, _ := image.Put(b)
	return val
}

// counted tells the bytes of a handle that has n in the block of addr.
func counted(addr uint32, n int) string {
	val, _ := handle.Put(handle.Handle{Counts: []handle.Count{{Block: addr &^ 63, N: n}}})
	return val
}

// owned tells what there is once the block at base is aff's, and n addresses of it are given.
func owned(aff string, n int) records {
	m := records{blkKey: given(base, aff, n)}
	if aff != "" {
		m["aff/"+aff+"/10.0.0.0-26"] = confirmed
	}
	if n > 1 {
		m[handKey] = counted(base, n/2)
	}
	if n > 0 {
		m["handle/h2"] = counted(base, n-n/2)
	}
	return m
}

// set lets key have val, whatever it had; what has - is not there.
func set(s *kv.State, key, val string) {
	s.Do(kv.Op{Kind: kv.Delete, Key: key, Rev: s.Do(get(key)).Rev})
	if val != "-" {
		s.Do(kv.Op{Kind: kv.Create, Key: key, Val: val})
	}
}

func get(key string) kv.Op { return kv.Op{Kind: kv.Get, Key: key} }

// ending is what somebody ended with.
type ending struct {
	l []uint32
	e api.Errno
}

func (x ending) is(y ending) bool { return x.e == y.e && slices.Equal(x.l, y.l) }

// run gives addr under a by what do tells, and tells how that ended, and what was asked.
func run(t *testing.T, a block.Attr, addr uint32, do func(o kv.Op) kv.Result) (ending, []kv.Op) {
	t.Helper()
	var ends []ending
	var asked []kv.Op
	p := mach.New()
	exact.Go(p, a, addr, func(l []uint32, e api.Errno) { ends = append(ends, ending{l, e}) })
	done := mach.Run(p, func(o kv.Op) kv.Result {
		if len(ends) != 0 {
			t.Errorf("%d under %v: ended %v, and asks %#v", addr, a, ends, o)
		}
		asked = append(asked, o)
		return do(o)
	}, exact.Bound())
	if !done || len(ends) != 1 {
		t.Fatalf("%d under %v: ended %v, %v behind %d steps", addr, a, done, ends, len(asked))
	}
	return ends[0], asked
}

// spelt tells what was asked, as text.
func spelt(l []kv.Op) []string {
	var said []string
	for _, o := range l {
		said = append(said, []string{"", "get ", "list ", "create ", "update ", "delete "}[o.Kind]+o.Key)
	}
	return said
}

// wantEnd holds how addr is given, and, part by part, what is asked for that.
func wantEnd(t *testing.T, what string, do func(o kv.Op) kv.Result, addr uint32, want ending, parts ...[]string) {
	t.Helper()
	got, asked := run(t, a, addr, do)
	if !got.is(want) {
		t.Errorf("%s: ended with %v; want %v", what, got, want)
	}
	if l := slices.Concat(parts...); !slices.Equal(spelt(asked), l) {
		t.Errorf("%s: asked %q; want %q", what, spelt(asked), l)
	}
}

func gave(addr uint32) ending { return ending{[]uint32{addr}, api.OK} }

func failed(e api.Errno) ending { return ending{nil, e} }

// What is asked of the block at base where all goes well: at the beginning, to claim, to leave, to grab, and to take back.
var (
	opening  = []string{"list pool/", "get " + nodeKey, "get " + affKey}
	claimNew = append(opening[:3:3], "create "+affKey, "get "+blkKey, "create "+blkKey, "update "+affKey)
	claimOld = append(opening[:3:3], "create "+affKey, "get "+blkKey, "update "+blkKey, "update "+affKey)
	claimOwn = append(opening[:3:3], "get "+blkKey)
	taken    = append(claimNew[:5:5], "get "+affKey, "update "+affKey, "get "+blkKey, "get "+affKey, "delete "+affKey)
)

// grabs tells what is asked to grab, and, where it is given up, to take back.
func grabs(count string, giveUp ...string) []string {
	l := []string{"get " + handKey, count + " " + handKey, "get " + blkKey}
	if len(giveUp) == 0 {
		return append(l, "update "+blkKey)
	}
	return append(l, "get "+handKey, giveUp[0]+" "+handKey)
}

// The example: an address of a block that is not there.
func TestExample(t *testing.T) {
	s := state(nil)
	got, asked := run(t, a, base+7, s.Do)
	if !got.is(gave(base+7)) || len(asked) != 11 {
		t.Errorf("ended with %v behind %d steps", got, len(asked))
	}
	b, _ := block.New(base, "n1")
	b, _ = block.AssignAt(b, base+7, a)
	val, _ := image.Put(b)
	want := state(records{affKey: confirmed, blkKey: val, handKey: counted(base, 1)})
	if !slices.EqualFunc(s.All(), want.All(), func(a, b kv.Item) bool { return a.Key == b.Key && a.Val == b.Val }) {
		t.Errorf("left %#v", s.All())
	}
}

// The block is claimed, and the address grabbed, whosever it is.
func TestWhoseBlock(t *testing.T) {
	wantEnd(t, "not there", state(nil).Do, base, gave(base), claimNew, grabs("create"))
	wantEnd(t, "nobody's", state(owned("", 3)).Do, base+40, gave(base+40), claimOld, grabs("update"))
	wantEnd(t, "its own", state(owned("n1", 3)).Do, base+3, gave(base+3), claimOwn, grabs("update"))
	for _, aff := range []string{"n2", "n3", "n11"} {
		s := state(owned(aff, 3))
		wantEnd(t, "somebody else's", s.Do, base+3, gave(base+3), taken, grabs("update"))
		if b, e := image.Read(s.Do(get(blkKey)).Val); e != api.OK || b.Aff != aff {
			t.Errorf("%s's block is %v", aff, b)
		}
	}
	for _, val := range []string{pending, leaving} {
		m := owned("n1", 3)
		m[affKey] = val
		again := slices.Clone(claimOld)
		again[3] = "update " + affKey
		wantEnd(t, "its own, but not Confirmed", state(m).Do, base+3, gave(base+3), again, grabs("update"))
	}
}

// One that is given already, even to the same, is not given, and nothing is counted; the block is claimed all the same.
func TestGivenAlready(t *testing.T) {
	for _, k := range []uint32{0, 1, 2} {
		wantEnd(t, "its own", state(owned("n1", 3)).Do, base+k, failed(api.ErrTaken), claimOwn, grabs("update", "update"))
		wantEnd(t, "somebody else's", state(owned("n2", 3)).Do, base+k, failed(api.ErrTaken), taken, grabs("update", "update"))
		s := state(owned("", 3))
		wantEnd(t, "nobody's", s.Do, base+k, failed(api.ErrTaken), claimOld, grabs("update", "update"))
		if b, e := image.Read(s.Do(get(blkKey)).Val); e != api.OK || b.Aff != "n1" {
			t.Errorf("nobody's block is %v", b)
		}
	}
	wantEnd(t, "the first one of a handle", state(owned("n1", 1)).Do, base, failed(api.ErrTaken), claimOwn, grabs("create", "delete"))
	s := state(nil)
	wantEnd(t, "ahead", s.Do, base+9, gave(base+9), claimNew, grabs("create"))
	wantEnd(t, "behind itself", s.Do, base+9, failed(api.ErrTaken), claimOwn, grabs("update", "update"))
}

// Each error of a claim but that it is taken is the end: nothing is counted, nothing is given.
func TestClaimThatFails(t *testing.T) {
	for _, m := range []records{{poolKey: "-"}, {poolKey: closedPool}, {poolKey: "-", "pool/10.0.1.0-24": "P\x0a\x00\x01\x00\x18\x01"}} {
		wantEnd(t, "no pool", state(m).Do, base, failed(api.ErrNone), opening[:1])
		// Whosever the block is, and whether the address is free.
		maps.Copy(m, owned("n2", 3))
		wantEnd(t, "no pool", state(m).Do, base+1, failed(api.ErrNone), opening[:1])
	}
	for _, val := range []string{"-", gone} {
		for _, m := range []records{{}, owned("", 3), owned("n1", 3), owned("n2", 3)} {
			m[nodeKey] = val
			wantEnd(t, "no node", state(m).Do, base+5, failed(api.ErrState), opening[:2])
		}
	}
	wantEnd(t, "a pool that says nothing", state(records{poolKey: ""}).Do, base, failed(api.ErrForm), opening[:1])
	wantEnd(t, "a node that says nothing", state(records{nodeKey: "N"}).Do, base, failed(api.ErrForm), opening[:2])
	wantEnd(t, "an affinity that says nothing", state(records{affKey: "A"}).Do, base, failed(api.ErrForm), opening)
	wantEnd(t, "a block that says nothing", state(records{blkKey: "B"}).Do, base, failed(api.ErrForm), claimNew[:5], taken[5:7], []string{"get " + blkKey, "get " + affKey})
	// Who is Confirmed, but whose block is not its own, tries in vain.
	m := owned("n2", 3)
	m[affKey] = confirmed
	wantEnd(t, "tired", state(m).Do, base, failed(api.ErrTired), slices.Repeat(claimOwn, api.Retries))
}

// Each error of a grab is the end, and nothing stays counted.
func TestGrabThatFails(t *testing.T) {
	m := owned("n1", 0)
	m[handKey] = "H"
	wantEnd(t, "a handle that says nothing", state(m).Do, base, failed(api.ErrForm), claimOwn, grabs("")[:1])
	m[handKey] = counted(base, 65535)
	wantEnd(t, "a handle that is full", state(m).Do, base, failed(api.ErrFull), claimOwn, grabs("")[:1])
	meanwhile := func(val string) func(o kv.Op) kv.Result {
		s := state(owned("n1", 0))
		return func(o kv.Op) kv.Result {
			r := s.Do(o)
			if o.Key == handKey {
				set(s, blkKey, val)
			}
			return r
		}
	}
	wantEnd(t, "a block that is gone meanwhile", meanwhile("-"), base, failed(api.ErrNone), claimOwn, grabs("create", "delete"))
	wantEnd(t, "a block that says nothing meanwhile", meanwhile(""), base, failed(api.ErrForm), claimOwn, grabs("create", "delete"))
	wantEnd(t, "an address that is given meanwhile", meanwhile(given(base, "n1", 9)), base+8, failed(api.ErrTaken), claimOwn, grabs("create", "delete"))
	// Whosever it is by then.
	for _, aff := range []string{"", "n2", "n1"} {
		wantEnd(t, "a block that is somebody else's meanwhile", meanwhile(given(base, aff, 9)), base+9, gave(base+9), claimOwn, grabs("create"))
	}
	s := state(owned("n1", 0))
	stale := func(o kv.Op) kv.Result {
		if o.Kind == kv.Update && o.Key == blkKey {
			return kv.Result{Code: api.ErrStale}
		}
		return s.Do(o)
	}
	wantEnd(t, "tired", stale, base, failed(api.ErrTired), claimOwn, grabs("create")[:2], slices.Repeat(grabs("")[2:], api.Retries), grabs("", "delete")[3:])
}

// Wherever the disk goes away: the end, with none.
func TestLost(t *testing.T) {
	for _, m := range []records{nil, owned("", 3), owned("n1", 3), owned("n2", 3), owned("n2", 41), owned("n1", 41)} {
		_, whole := run(t, a, base+40, state(m).Do)
		for k := range whole {
			s, steps := state(m), 0
			got, asked := run(t, a, base+40, func(o kv.Op) kv.Result {
				steps++
				r := s.Do(o)
				if steps == k+1 {
					// What else is told beside it does not count.
					r.Code = api.ErrLost
				}
				return r
			})
			if !got.is(failed(api.ErrLost)) || !slices.Equal(asked, whole[:k+1]) {
				t.Errorf("lost at the step %d: ended with %v behind %q", k, got, spelt(asked))
			}
		}
	}
}

// Just that one is given, wherever it stands in the block, and in which turn others would be.
func TestJustThatOne(t *testing.T) {
	b, _ := image.Read(given(base, "n1", 64))
	var l []uint32
	for k := range uint32(64) {
		l = append(l, base+(k*37)%64)
	}
	b, _, _ = block.Release(b, l)
	empty, _ := image.Put(b)
	for k := range uint32(64) {
		s := state(records{affKey: confirmed, blkKey: empty})
		got, _ := run(t, a, base+k, s.Do)
		v, _ := view.Of(s.All())
		if !got.is(gave(base+k)) || !maps.Equal(v.Given(), map[uint32]block.Attr{base + k: a}) || s.Do(get(handKey)).Val != counted(base, 1) {
			t.Errorf("%d: ended with %v; given is %v", k, got, v.Given())
		}
	}
}

// Of which block it is, at all edges.
func TestAddresses(t *testing.T) {
	pools := records{poolKey: openPool, "pool/0.0.0.0-26": "P\x00\x00\x00\x00\x1a\x01", "pool/255.255.0.0-16": "P\xff\xff\x00\x00\x10\x01"}
	for addr, net := range map[uint32]string{
		base: "10.0.0.0-26", base + 63: "10.0.0.0-26", base + 64: "10.0.0.64-26", base + 255: "10.0.0.192-26",
		0: "0.0.0.0-26", 63: "0.0.0.0-26", 1<<32 - 1: "255.255.255.192-26", 1<<32 - 1<<16: "255.255.0.0-26",
	} {
		s := state(pools)
		got, asked := run(t, a, addr, s.Do)
		b, e := image.Read(s.Do(get("block/" + net)).Val)
		if at, is := b.Of(addr); !got.is(gave(addr)) || e != api.OK || !is || at != a || b.Addr != addr&^63 || s.Do(get(handKey)).Val != counted(addr, 1) || len(asked) != 11 {
			t.Errorf("%d: ended with %v: %#v", addr, got, s.All())
		}
	}
	for _, addr := range []uint32{base - 1, base + 256, 64, 1<<32 - 1<<16 - 1} {
		wantEnd(t, "of no pool", state(pools).Do, addr, failed(api.ErrNone), opening[:1])
	}
}

// whyNot tells why addr is not given alone, by the words.
func whyNot(v view.View, node string, addr uint32) api.Errno {
	pool, lies := v.PoolOf(addr)
	isGone, known := v.Nodes[node]
	_, given := v.Given()[addr]
	switch {
	case !lies || !pool.Open:
		return api.ErrNone
	case !known || isGone:
		return api.ErrState
	case given:
		return api.ErrTaken
	}
	return api.OK
}

// Alone it gives the address, if the node is there, and not gone, an open pool has it, and it is free; nothing else that is given changes.
func TestAlone(t *testing.T) {
	for _, pool := range []string{openPool, closedPool, "-"} {
		for _, node := range []string{present, gone, "-"} {
			for _, aff := range []string{"-", "", "n1", "n2", "n3"} {
				for _, n := range []int{0, 1, 3, 63, 64} {
					m := records{}
					if aff != "-" {
						m = owned(aff, n)
					}
					m[poolKey], m[nodeKey] = pool, node
					for _, k := range []uint32{0, 2, 3, 62, 63, 64} {
						wantAlone(t, state(m), base+k)
					}
				}
			}
		}
	}
}

func wantAlone(t *testing.T, s *kv.State, addr uint32) {
	t.Helper()
	v, e := view.Of(s.All())
	if e != api.OK {
		t.Fatalf("there is what is no record: %#v", s.All())
	}
	want, all, hands := ending{nil, whyNot(v, "n1", addr)}, v.Given(), maps.Clone(v.Handles)
	if want.e == api.OK {
		want.l = []uint32{addr}
		all[addr] = a
		hands["h1"], _ = handle.Add(hands["h1"], addr, 1)
	}
	got, _ := run(t, a, addr, s.Do)
	after, e := view.Of(s.All())
	same := func(a, b handle.Handle) bool { return slices.Equal(a.Counts, b.Counts) }
	if !got.is(want) || e != api.OK || !maps.Equal(after.Given(), all) || !maps.EqualFunc(after.Handles, hands, same) {
		t.Errorf("%d: ended with %v; want %v; left %#v", addr, got, want, s.All())
	}
}

// Of two that want one address at most one is told that it is given, in whatever turns; of both somebody is, as both go on to their end.
func TestTwo(t *testing.T) {
	for turns := range 1 << 13 {
		s := state(nil)
		attrs := [2]block.Attr{{Handle: "h1", Node: "n1"}, {Handle: "h2", Node: "n2"}}
		var procs [2]*mach.Proc
		var ends [2]ending
		for k := range procs {
			procs[k] = mach.New()
			exact.Go(procs[k], attrs[k], base+7, func(l []uint32, e api.Errno) { ends[k] = ending{l, e} })
		}
		for k := range 13 {
			mach.Run(procs[turns>>k&1], s.Do, 1)
		}
		mach.Run(procs[0], s.Do, exact.Bound())
		mach.Run(procs[1], s.Do, exact.Bound())
		has := 0
		if ends[1].e == api.OK {
			has = 1
		}
		v, _ := view.Of(s.All())
		if !ends[has].is(gave(base+7)) || !ends[1-has].is(failed(api.ErrTaken)) || !maps.Equal(v.Given(), map[uint32]block.Attr{base + 7: attrs[has]}) || len(v.Handles) != 1 {
			t.Fatalf("turns %b: ended %v: %#v", turns, ends, s.All())
		}
	}
}

func TestAttrsThatMayNotBe(t *testing.T) {
	var l []block.Attr
	for _, name := range []string{"", "a/b", "a b", "é", "\xff", "n1\n", strings.Repeat("n", api.MaxText+1)} {
		l = append(l, block.Attr{Handle: name, Node: "n1"}, block.Attr{Handle: "h1", Node: name}, block.Attr{Handle: name, Node: name})
	}
	for _, x := range l {
		for _, p := range []*mach.Proc{nil, mach.New()} {
			var ends []ending
			ahead := get("ahead")
			p.Ask(ahead, nil)
			exact.Go(p, x, base, func(l []uint32, e api.Errno) { ends = append(ends, ending{l, e}) })
			if !slices.EqualFunc(ends, []ending{failed(api.ErrArg)}, ending.is) {
				t.Errorf("%q: ended %v", x, ends)
			}
			if o, asks := p.Op(); p != nil && (!asks || o != ahead) {
				t.Errorf("%q: asks %#v, %v", x, o, asks)
			}
			exact.Go(p, x, base, nil)
		}
	}
	for _, name := range []string{"n", "A.b-c_9", strings.Repeat("n", api.MaxText)} {
		s := state(records{"node/" + name: present})
		if got, _ := run(t, block.Attr{Handle: name, Node: name}, base, s.Do); !got.is(gave(base)) || s.Do(get("handle/"+name)).Val != counted(base, 1) {
			t.Errorf("of the name %q: ended with %v: %#v", name, got, s.All())
		}
	}
}

func TestNoProcedure(t *testing.T) {
	exact.Go(nil, a, base, func(l []uint32, e api.Errno) { t.Errorf("without a procedure it ended: %v, %d", l, e) })
	exact.Go(nil, a, base, nil)
}

// Nobody needs to be called at the end.
func TestNoThen(t *testing.T) {
	for _, m := range []records{nil, {poolKey: "-"}, {nodeKey: gone}, {affKey: ""}, owned("n2", 1), owned("n1", 0), {handKey: ""}} {
		s, p := state(m), mach.New()
		exact.Go(p, a, base, nil)
		if !mach.Run(p, s.Do, exact.Bound()) {
			t.Errorf("of %v it goes on", m)
		}
	}
	p := mach.New()
	exact.Go(p, a, base, nil)
	if !mach.Run(p, func(kv.Op) kv.Result { return kv.Result{Code: api.ErrLost} }, 1) {
		t.Error("once the disk went away it goes on")
	}
	s := state(nil)
	exact.Go(p, a, base, nil)
	if !mach.Run(p, s.Do, 11) || s.Do(get(handKey)).Val != counted(base, 1) {
		t.Errorf("nobody is called: %#v", s.All())
	}
}

// At the end the procedure asks nothing: whoever is called may ask by it anew, and write into what was told.
func TestOneBehindAnother(t *testing.T) {
	s, p := state(nil), mach.New()
	l := []uint32{base + 7, base + 7, base + 64, base + 256, base + 6}
	var ends []ending
	var on func(given []uint32, e api.Errno)
	on = func(given []uint32, e api.Errno) {
		ends = append(ends, ending{slices.Clone(given), e})
		clear(given)
		_ = append(given[:0], 7, 7, 7)
		if len(ends) < len(l) {
			exact.Go(p, a, l[len(ends)], on)
		}
	}
	exact.Go(p, a, l[0], on)
	want := []ending{gave(base + 7), failed(api.ErrTaken), gave(base + 64), failed(api.ErrNone), gave(base + 6)}
	if !mach.Run(p, s.Do, 99) || !slices.EqualFunc(ends, want, ending.is) || p.Steps() != 11+9+11+1+8 {
		t.Errorf("ended %v by %d steps: %#v", ends, p.Steps(), s.All())
	}
}

// What it asked ahead is not asked any more.
func TestInPlaceOfAnother(t *testing.T) {
	p := mach.New()
	p.Ask(get("ahead"), func(kv.Result) { t.Error("what was asked ahead goes on") })
	exact.Go(p, a, base, nil)
	if o, asks := p.Op(); !asks || o != (kv.Op{Kind: kv.List, Key: "pool/"}) {
		t.Errorf("asks %#v, %v", o, asks)
	}
}

func TestBound(t *testing.T) {
	if exact.Bound() != 114 {
		t.Errorf("Bound is %d", exact.Bound())
	}
	// A long way: claiming is refused at the last step of each try but one, in which the block is taken; leaving, counting and giving are refused up to the last try.
	s, confirms, writes := state(nil), 0, map[string]int{}
	got, asked := run(t, a, base+7, func(o kv.Op) kv.Result {
		switch {
		case o.Kind == kv.Update && o.Val == confirmed:
			if confirms++; confirms == api.Retries-1 {
				set(s, blkKey, given(base, "n2", 0))
			}
			return kv.Result{Code: api.ErrStale}
		case o.Kind == kv.Delete && o.Key == affKey, o.Kind == kv.Get || o.Kind == kv.List || o.Val == pending, o.Key == blkKey && confirms < api.Retries-1:
			return s.Do(o)
		}
		if writes[o.Key]++; writes[o.Key] < api.Retries {
			return kv.Result{Code: api.ErrStale}
		}
		return s.Do(o)
	})
	if !got.is(gave(base+7)) || len(asked) != 7*5+5+2*5+5+2*6+2*6 {
		t.Errorf("the long way: ended with %v behind %d steps: %q", got, len(asked), spelt(asked))
	}
}
