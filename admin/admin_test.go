package admin_test

import (
	"maps"
	"math"
	"slices"
	"strings"
	"testing"

	"virgate/admin"
	"virgate/api"
	"virgate/block"
	"virgate/cidr"
	"virgate/image"
	"virgate/kv"
	"virgate/mach"
	"virgate/recs"
)

// base is the first address of most pools.
const base = 10 << 24

// Keys, written by hand.
const (
	lockKey = "lock"
	poolKey = "pool/10.0.0.0-24"
	nodeKey = "node/n1"
)

// Records, as bytes written by hand.
const (
	openPool   = "P\x0a\x00\x00\x00\x18\x01"
	closedPool = "P\x0a\x00\x00\x00\x18\x00"
	present    = "N\x00"
	gone       = "N\x01"
	confirmed  = "A\x02"
)

// net is that of the pool that most is done with.
var net = cidr.Net{Addr: base, Bits: 24}

// change is one of all: a pool or a node comes, changes or goes.
type change func(p *mach.Proc, then func(e api.Errno))

func addPool(n cidr.Net) change {
	return func(p *mach.Proc, then func(e api.Errno)) { admin.AddPool(p, n, then) }
}

func setPool(n cidr.Net, open bool) change {
	return func(p *mach.Proc, then func(e api.Errno)) { admin.SetPool(p, n, open, then) }
}

func dropPool(n cidr.Net) change {
	return func(p *mach.Proc, then func(e api.Errno)) { admin.DropPool(p, n, then) }
}

func addNode(name string) change {
	return func(p *mach.Proc, then func(e api.Errno)) { admin.AddNode(p, name, then) }
}

func dropNode(name string) change {
	return func(p *mach.Proc, then func(e api.Errno)) { admin.DropNode(p, name, then) }
}

// all tells all changes of the pool at base, and of n1, by what they do.
func all() map[string]change {
	return map[string]change{
		"add a pool": addPool(net), "open a pool": setPool(net, true), "close a pool": setPool(net, false), "drop a pool": dropPool(net),
		"add a node": addNode("n1"), "drop a node": dropNode("n1"),
	}
}

// records are what there is, by the keys.
type records map[string]string

func state(m records) *kv.State {
	s := kv.New()
	for _, key := range slices.Sorted(maps.Keys(m)) {
		s.Do(kv.Op{Kind: kv.Create, Key: key, Val: m[key]})
	}
	return s
}

// recordsOf tells what s has.
func recordsOf(s *kv.State) records {
	m := records{}
	for _, it := range s.All() {
		m[it.Key] = it.Val
	}
	return m
}

// with tells m with what more has, too.
func (m records) with(more records) records {
	both := maps.Clone(m)
	maps.Copy(both, more)
	return both
}

func get(key string) kv.Op { return kv.Op{Kind: kv.Get, Key: key} }

func list(key string) kv.Op { return kv.Op{Kind: kv.List, Key: key} }

func create(key, val string) kv.Op { return kv.Op{Kind: kv.Create, Key: key, Val: val} }

func update(key, val string, rev int64) kv.Op {
	return kv.Op{Kind: kv.Update, Key: key, Val: val, Rev: rev}
}

func remove(key string, rev int64) kv.Op { return kv.Op{Kind: kv.Delete, Key: key, Rev: rev} }

// createIf tells what creates a pool, as long as the lock has that revision.
func createIf(key, val string, lock int64) kv.Op {
	return kv.Op{Kind: kv.Create, Key: key, Val: val, If: lockKey, IfRev: lock}
}

// run does c by what do tells, and tells how that ended, and what was asked.
func run(t *testing.T, c change, do func(o kv.Op) kv.Result) (api.Errno, []kv.Op) {
	t.Helper()
	var ends []api.Errno
	var asked []kv.Op
	p := mach.New()
	c(p, func(e api.Errno) { ends = append(ends, e) })
	done := mach.Run(p, func(o kv.Op) kv.Result {
		if len(ends) != 0 {
			t.Errorf("ended %v, and asks %#v", ends, o)
		}
		asked = append(asked, o)
		return do(o)
	}, admin.Bound())
	if !done || len(ends) != 1 {
		t.Fatalf("ended %v, %v behind %#v", done, ends, asked)
	}
	return ends[0], asked
}

// wantEnd holds how c ends, what is asked for that, and what is there then.
func wantEnd(t *testing.T, what string, s *kv.State, c change, e api.Errno, left records, asked ...kv.Op) {
	t.Helper()
	got, l := run(t, c, s.Do)
	if got != e || !slices.Equal(l, asked) {
		t.Errorf("%s: ended with %d behind %#v; want %d, %#v", what, got, l, e, asked)
	}
	if !maps.Equal(recordsOf(s), left) {
		t.Errorf("%s: left %q; want %q", what, recordsOf(s), left)
	}
}

// The example: a first pool.
func TestFirstPool(t *testing.T) {
	s := kv.New()
	wantEnd(t, "the first", s, addPool(net), api.OK, records{lockKey: "L", poolKey: openPool}, get(lockKey), create(lockKey, "L"), list("pool/"), createIf(poolKey, openPool, 1))
	next := cidr.Net{Addr: base + 256, Bits: 26}
	left := records{lockKey: "L", poolKey: openPool, "pool/10.0.1.0-26": "P\x0a\x00\x01\x00\x1a\x01"}
	wantEnd(t, "the second", s, addPool(next), api.OK, left, get(lockKey), update(lockKey, "L", 1), list("pool/"), createIf("pool/10.0.1.0-26", "P\x0a\x00\x01\x00\x1a\x01", 3))
	wantEnd(t, "once more", s, addPool(net), api.ErrTaken, left, get(lockKey), update(lockKey, "L", 3), list("pool/"))
}

// What the lock has does not count: it is written as it should be.
func TestLockThatSaysNothing(t *testing.T) {
	for _, val := range []string{"", "x", "LL", openPool} {
		s := state(records{lockKey: val})
		wantEnd(t, "the lock "+val, s, addPool(net), api.OK, records{lockKey: "L", poolKey: openPool}, get(lockKey), update(lockKey, "L", 1), list("pool/"), createIf(poolKey, openPool, 2))
	}
}

// A pool comes just if it meets no other one, open or not.
func TestPoolsThatMeet(t *testing.T) {
	nets := []string{"10.0.0.0/24", "10.0.0.0/26", "10.0.0.192/26", "10.0.0.0/16", "10.0.1.0/24", "10.0.0.0/23", "9.255.255.192/26", "10.1.0.0/16", "0.0.0.0/16", "255.255.0.0/16", "255.255.255.192/26", "10.0.0.128/25"}
	for _, x := range nets {
		for _, y := range nets {
			for _, open := range []bool{true, false} {
				there, _ := cidr.Parse(x)
				n, _ := cidr.Parse(y)
				val, _ := recs.PutPool(recs.Pool{Net: there, Open: open})
				comes, _ := recs.PutPool(recs.Pool{Net: n, Open: true})
				m := records{"pool/" + strings.Replace(x, "/", "-", 1): val}
				want := api.ErrTaken
				left := m.with(records{lockKey: "L"})
				if there.Last() < n.Addr || n.Last() < there.Addr {
					want = api.OK
					left["pool/"+strings.Replace(y, "/", "-", 1)] = comes
				}
				s := state(m)
				if e, _ := run(t, addPool(n), s.Do); e != want || !maps.Equal(recordsOf(s), left) {
					t.Errorf("%s beside %s: ended with %d; left %q", y, x, e, recordsOf(s))
				}
			}
		}
	}
	// Whichever it meets.
	m := records{poolKey: closedPool, "pool/10.0.2.0-24": "P\x0a\x00\x02\x00\x18\x01", "pool/9.0.0.0-16": "P\x09\x00\x00\x00\x10\x01"}
	for text, want := range map[string]api.Errno{"10.0.0.64/26": api.ErrTaken, "10.0.2.64/26": api.ErrTaken, "9.0.7.0/26": api.ErrTaken, "10.0.1.0/26": api.OK, "10.0.0.0/16": api.ErrTaken} {
		n, _ := cidr.Parse(text)
		if e, _ := run(t, addPool(n), state(m).Do); e != want {
			t.Errorf("%s: ended with %d; want %d", text, e, want)
		}
	}
}

func TestSetPool(t *testing.T) {
	for _, was := range []string{openPool, closedPool} {
		s := state(records{nodeKey: present, poolKey: was})
		wantEnd(t, "closed", s, setPool(net, false), api.OK, records{nodeKey: present, poolKey: closedPool}, get(poolKey), update(poolKey, closedPool, 2))
		s = state(records{nodeKey: present, poolKey: was})
		wantEnd(t, "opened", s, setPool(net, true), api.OK, records{nodeKey: present, poolKey: openPool}, get(poolKey), update(poolKey, openPool, 2))
	}
	// Of one that lies in another one, or in which another one lies, it is none.
	for _, n := range []cidr.Net{{Addr: base, Bits: 25}, {Addr: base, Bits: 23}, {Addr: base + 256, Bits: 24}} {
		for _, c := range []change{setPool(n, false), dropPool(n)} {
			m := records{poolKey: openPool}
			if e, asked := run(t, c, state(m).Do); e != api.ErrNone || len(asked) != 1 {
				t.Errorf("%v: ended with %d behind %#v", n, e, asked)
			}
		}
	}
	// What it has but that stays, even if that is another pool's.
	s := state(records{poolKey: "P\x0a\x00\x01\x00\x18\x01"})
	wantEnd(t, "another one's", s, setPool(net, false), api.OK, records{poolKey: "P\x0a\x00\x01\x00\x18\x00"}, get(poolKey), update(poolKey, "P\x0a\x00\x01\x00\x18\x00", 1))
}

// All that is asked to drop the pool, of that revision.
func dropping(rev int64) []kv.Op {
	return []kv.Op{get(poolKey), list("aff/"), list("block/"), remove(poolKey, rev)}
}

func TestDropPool(t *testing.T) {
	other := records{
		"aff/n1/10.0.1.0-26": confirmed, "aff/n1/9.255.255.192-26": confirmed, "block/10.0.1.0-26": blockOf(base+256, "n1"), "block/9.255.255.192-26": blockOf(base-64, ""),
		"pool/10.0.1.0-24": "P\x0a\x00\x01\x00\x18\x00", nodeKey: present, lockKey: "L",
	}
	wantEnd(t, "alone", state(records{poolKey: closedPool}), dropPool(net), api.OK, records{}, dropping(1)...)
	m := other.with(records{poolKey: closedPool})
	wantEnd(t, "among others", state(m), dropPool(net), api.OK, other, dropping(7)...)
	m[poolKey] = openPool
	wantEnd(t, "open", state(m), dropPool(net), api.ErrState, m, get(poolKey))
	delete(m, poolKey)
	wantEnd(t, "none", state(m), dropPool(net), api.ErrNone, m, get(poolKey))
}

func blockOf(addr uint32, aff string) string {
	b, _ := block.New(addr, aff)
	val, _ := image.Put(b)
	return val
}

// Whatever lies in the pool, by the keys alone: it stays.
func TestWhatLiesInThePool(t *testing.T) {
	for _, at := range []string{"10.0.0.0-26", "10.0.0.64-26", "10.0.0.192-26"} {
		for _, val := range []string{confirmed, "A\x01", "A\x03", "", "A\x09", openPool} {
			m := records{poolKey: closedPool, "aff/n7/" + at: val, "aff/n1/10.0.1.0-26": confirmed}
			wantEnd(t, "an affinity", state(m), dropPool(net), api.ErrState, m, dropping(0)[:2]...)
			m["block/"+at] = blockOf(base, "n7")
			wantEnd(t, "an affinity, and a block", state(m), dropPool(net), api.ErrState, m, dropping(0)[:2]...)
		}
		for _, val := range []string{blockOf(base, ""), blockOf(base, "n1"), "", "B", confirmed} {
			m := records{poolKey: closedPool, "block/" + at: val, "block/9.255.255.192-26": blockOf(base-64, "")}
			wantEnd(t, "a block", state(m), dropPool(net), api.ErrState, m, dropping(0)[:3]...)
		}
	}
	// What is no affinity's key, and no block's, lies nowhere.
	m := records{poolKey: closedPool}
	for _, key := range []string{"aff/10.0.0.0-26", "aff/n1/10.0.0.0-27", "aff/n1/10.0.0.0/26", "aff/n1/10.0.0.1-26", "aff/n1/", "aff/a b/10.0.0.0-26", "block/10.0.0.0-27", "block/10.0.0.0/26", "block/10.0.0.1-26", "block/", "aff/0.0.0.0-26", "block/0.0.0.0-25"} {
		m[key] = ""
	}
	left := maps.Clone(m)
	delete(left, poolKey)
	wantEnd(t, "none of these", state(m), dropPool(net), api.OK, left, dropping(int64(len(m)))...)
	// At address 0, too.
	m = records{"pool/0.0.0.0-26": "P\x00\x00\x00\x00\x1a\x00", "aff/x": "", "block/x": ""}
	if e, _ := run(t, dropPool(cidr.Net{Bits: 26}), state(m).Do); e != api.OK {
		t.Errorf("at 0: ended with %d", e)
	}
	m["block/0.0.0.0-26"] = blockOf(0, "")
	if e, _ := run(t, dropPool(cidr.Net{Bits: 26}), state(m).Do); e != api.ErrState {
		t.Errorf("at 0, with a block: ended with %d", e)
	}
}

func TestNodes(t *testing.T) {
	s := kv.New()
	none, is, was := records{}, records{nodeKey: present}, records{nodeKey: gone}
	wantEnd(t, "none to drop", s, dropNode("n1"), api.ErrNone, none, get(nodeKey))
	wantEnd(t, "a first one", s, addNode("n1"), api.OK, is, create(nodeKey, present))
	wantEnd(t, "once more", s, addNode("n1"), api.ErrThere, is, create(nodeKey, present))
	wantEnd(t, "dropped", s, dropNode("n1"), api.OK, was, get(nodeKey), update(nodeKey, gone, 1))
	wantEnd(t, "dropped once more", s, dropNode("n1"), api.OK, was, get(nodeKey))
	wantEnd(t, "one that is gone", s, addNode("n1"), api.ErrThere, was, create(nodeKey, present))
	wantEnd(t, "another one", s, addNode("n11"), api.OK, was.with(records{"node/n11": present}), create("node/n11", present))
}

// What is there and says nothing is the end, where it would be used.
func TestSaysNothing(t *testing.T) {
	for _, val := range []string{"", "x", "P", openPool + "x", "P\x0a\x00\x00\x00\x18\x02", "P\x0a\x00\x00\x00\x1b\x00", present} {
		m := records{poolKey: val}
		for _, c := range []change{setPool(net, true), setPool(net, false), dropPool(net)} {
			wantEnd(t, "a pool", state(m), c, api.ErrForm, m, get(poolKey))
		}
		locked := records{poolKey: val, lockKey: "L"}
		for _, n := range []cidr.Net{net, {Addr: base, Bits: 16}, {Addr: base + 256, Bits: 24}} {
			wantEnd(t, "another pool", state(m), addPool(n), api.ErrForm, locked, get(lockKey), create(lockKey, "L"), list("pool/"))
		}
		// Behind one that it meets it is not used.
		m = records{lockKey: "L", poolKey: openPool, "pool/9.0.0.0-24": val}
		wantEnd(t, "a pool behind", state(m), addPool(net), api.ErrTaken, m, get(lockKey), update(lockKey, "L", 1), list("pool/"))
	}
	for _, val := range []string{"", "N", "N\x02", "N\x00x", openPool} {
		m := records{nodeKey: val}
		wantEnd(t, "a node", state(m), dropNode("n1"), api.ErrForm, m, get(nodeKey))
		wantEnd(t, "a node that is there", state(m), addNode("n1"), api.ErrThere, m, create(nodeKey, present))
	}
}

// refuse tells by s, but refuses the k-th that is asked of it, from 0 on, with e.
func refuse(s *kv.State, k int, e api.Errno) func(o kv.Op) kv.Result {
	return func(o kv.Op) kv.Result {
		if k--; k == -1 {
			// What else is told beside it does not count.
			r := s.Do(kv.Op{Kind: kv.List})
			r.Code = e
			return r
		}
		return s.Do(o)
	}
}

// long tells of each a state in which it asks most, and how much that is.
func long() map[string]struct {
	m     records
	steps int
} {
	type x = struct {
		m     records
		steps int
	}
	return map[string]x{
		"add a pool": {records{lockKey: "L", nodeKey: present}, 4}, "open a pool": {records{nodeKey: present, poolKey: closedPool}, 2}, "close a pool": {records{nodeKey: present, poolKey: openPool}, 2},
		"drop a pool": {records{nodeKey: present, poolKey: closedPool}, 4}, "add a node": {records{poolKey: openPool}, 1}, "drop a node": {records{nodeKey: present}, 2},
	}
}

// Where something is refused, and nothing else is said, it is tried from the beginning on.
func TestRefused(t *testing.T) {
	for what, x := range long() {
		c := all()[what]
		s := state(x.m)
		if e, asked := run(t, c, s.Do); e != api.OK || len(asked) != x.steps {
			t.Fatalf("%s: ended with %d behind %#v", what, e, asked)
		}
		left := recordsOf(s)
		for k := range x.steps {
			for _, e := range []api.Errno{api.ErrArg, api.ErrNil, api.ErrNone, api.ErrThere, api.ErrStale, api.ErrFull, api.ErrTired, -1} {
				// A lock that is not there is written, nothing else is said of that; of others it is the end.
				if k == 0 && e == api.ErrNone && what != "add a node" || what == "add a node" && e == api.ErrThere {
					continue
				}
				s := state(x.m)
				got, asked := run(t, c, refuse(s, k, e))
				if got != api.OK || len(asked) != k+1+x.steps || !maps.Equal(recordsOf(s), left) {
					t.Errorf("%s, the step %d refused with %d: ended with %d behind %#v; left %q", what, k, e, got, asked, recordsOf(s))
				}
			}
		}
	}
}

// Behind Retries times it is the end.
func TestTired(t *testing.T) {
	for what, x := range long() {
		c := all()[what]
		for k := range x.steps {
			s, n := state(x.m), 0
			e, asked := run(t, c, func(o kv.Op) kv.Result {
				n++
				if (n-1)%(k+1) == k {
					return kv.Result{Code: api.ErrStale}
				}
				return s.Do(o)
			})
			if e != api.ErrTired || len(asked) != (k+1)*api.Retries {
				t.Errorf("%s, always refused at the step %d: ended with %d behind %d", what, k, e, len(asked))
			}
			// Refused once less it is done.
			s, n = state(x.m), 0
			e, asked = run(t, c, func(o kv.Op) kv.Result {
				n++
				if (n-1)%(k+1) == k && n < (k+1)*api.Retries {
					return kv.Result{Code: api.ErrStale}
				}
				return s.Do(o)
			})
			if e != api.OK || len(asked) != (k+1)*(api.Retries-1)+x.steps {
				t.Errorf("%s, refused at the step %d but once: ended with %d behind %d", what, k, e, len(asked))
			}
		}
	}
	if admin.Bound() != 24 {
		t.Errorf("Bound is %d", admin.Bound())
	}
}

// Wherever the disk goes away: the end, in whatever try.
func TestLost(t *testing.T) {
	for what, x := range long() {
		c := all()[what]
		for tries := range 3 {
			for k := range x.steps {
				s, n := state(x.m), 0
				e, asked := run(t, c, func(o kv.Op) kv.Result {
					n++
					if n > tries*x.steps+k {
						return kv.Result{Code: api.ErrLost, Rev: 3, Val: openPool}
					}
					if n%x.steps == 0 {
						return kv.Result{Code: api.ErrStale}
					}
					return s.Do(o)
				})
				if e != api.ErrLost || len(asked) != tries*x.steps+k+1 {
					t.Errorf("%s: lost at the step %d of the try %d: ended with %d behind %#v", what, k, tries, e, asked)
				}
			}
		}
	}
	// A lock that is not there yet, too.
	s := kv.New()
	for k := range 4 {
		if e, asked := run(t, addPool(net), refuse(s, k, api.ErrLost)); e != api.ErrLost || len(asked) != k+1 {
			t.Errorf("the first pool: lost at the step %d: ended with %d behind %#v", k, e, asked)
		}
		s = kv.New()
	}
}

// What is no pool's Net, and no node's name.
func mayNot() map[string]change {
	m := map[string]change{}
	for _, n := range []cidr.Net{{}, {Bits: 15}, {Bits: 27}, {Bits: 32}, {Bits: 33}, {Bits: -1}, {Addr: base, Bits: 27}, {Addr: base, Bits: 15}, {Addr: base, Bits: 8}, {Addr: base + 1, Bits: 24}, {Addr: base + 256, Bits: 16}, {Addr: base + 32, Bits: 26}, {Addr: 1<<32 - 1, Bits: 26}, {Addr: base, Bits: math.MaxInt}, {Addr: base, Bits: math.MinInt}} {
		m["add "+cidr.Print(n)], m["open "+cidr.Print(n)], m["close "+cidr.Print(n)], m["drop "+cidr.Print(n)] = addPool(n), setPool(n, true), setPool(n, false), dropPool(n)
	}
	for _, name := range []string{"", "a/b", "a b", "é", "\xff", "n1\n", "/", strings.Repeat("n", api.MaxText+1)} {
		m["add "+name], m["drop "+name] = addNode(name), dropNode(name)
	}
	return m
}

// At once: what may not be.
func TestMayNot(t *testing.T) {
	for what, c := range mayNot() {
		for _, p := range []*mach.Proc{nil, mach.New()} {
			var ends []api.Errno
			ahead := get("ahead")
			p.Ask(ahead, nil)
			c(p, func(e api.Errno) { ends = append(ends, e) })
			if !slices.Equal(ends, []api.Errno{api.ErrArg}) {
				t.Errorf("%q: ended %v", what, ends)
			}
			if o, asks := p.Op(); p != nil && (!asks || o != ahead) {
				t.Errorf("%q: asks %#v, %v", what, o, asks)
			}
			c(p, nil)
		}
	}
}

// What may be, at the edges.
func TestMay(t *testing.T) {
	for text, n := range map[string]cidr.Net{"0.0.0.0-16": {Bits: 16}, "0.0.0.0-26": {Bits: 26}, "255.255.0.0-16": {Addr: 1<<32 - 1<<16, Bits: 16}, "255.255.255.192-26": {Addr: 1<<32 - 64, Bits: 26}, "128.0.0.0-17": {Addr: 1 << 31, Bits: 17}} {
		s, key := kv.New(), "pool/"+text
		var ends []api.Errno
		for _, c := range []change{addPool(n), dropPool(n), setPool(n, true), setPool(n, false), dropPool(n)} {
			e, _ := run(t, c, s.Do)
			ends = append(ends, e, s.Do(get(key)).Code)
		}
		if !slices.Equal(ends, []api.Errno{api.OK, api.OK, api.ErrState, api.OK, api.OK, api.OK, api.OK, api.OK, api.OK, api.ErrNone}) {
			t.Errorf("%s: ended, and was there, %v", text, ends)
		}
	}
	for _, name := range []string{"n", "A.b-c_9", strings.Repeat("n", api.MaxText)} {
		s := kv.New()
		added, _ := run(t, addNode(name), s.Do)
		dropped, _ := run(t, dropNode(name), s.Do)
		if added != api.OK || dropped != api.OK || !maps.Equal(recordsOf(s), records{"node/" + name: gone}) {
			t.Errorf("%s: ended with %d, %d: %#v", name, added, dropped, s.All())
		}
	}
}

func TestNoProcedure(t *testing.T) {
	for what, c := range all() {
		c(nil, func(e api.Errno) { t.Errorf("%s: without a procedure it ended: %d", what, e) })
		c(nil, nil)
	}
}

// Nobody needs to be called at the end.
func TestNoThen(t *testing.T) {
	for what, c := range all() {
		for _, told := range []kv.Result{{}, {Code: api.ErrNone}, {Code: api.ErrThere}, {Code: api.ErrLost}, {Code: api.ErrStale}, {Val: openPool}, {Val: closedPool}, {Val: present}, {Val: gone}} {
			p := mach.New()
			c(p, nil)
			if !mach.Run(p, func(kv.Op) kv.Result { return told }, admin.Bound()) {
				t.Errorf("%s: told %#v it goes on", what, told)
			}
		}
	}
}

// At the end the procedure asks nothing: whoever is called may ask by it anew.
func TestOneBehindAnother(t *testing.T) {
	s, p := kv.New(), mach.New()
	l := []change{addNode("n1"), addNode(""), addPool(net), addPool(net), dropPool(net), setPool(net, false), dropPool(net), dropPool(net), dropNode("n1"), addPool(net)}
	want := []api.Errno{api.OK, api.ErrArg, api.OK, api.ErrTaken, api.ErrState, api.OK, api.OK, api.ErrNone, api.OK, api.OK}
	var ends []api.Errno
	var on func(e api.Errno)
	on = func(e api.Errno) {
		ends = append(ends, e)
		if len(ends) < len(l) {
			l[len(ends)](p, on)
		}
	}
	l[0](p, on)
	if !mach.Run(p, s.Do, 99) || !slices.Equal(ends, want) || !maps.Equal(recordsOf(s), records{nodeKey: gone, lockKey: "L", poolKey: openPool}) {
		t.Errorf("ended %v by %d steps: %#v", ends, p.Steps(), s.All())
	}
}

// What it asked ahead is not asked any more.
func TestInPlaceOfAnother(t *testing.T) {
	first := map[string]kv.Op{"add a pool": get(lockKey), "add a node": create(nodeKey, present), "drop a node": get(nodeKey)}
	for what, c := range all() {
		want, is := first[what]
		if !is {
			want = get(poolKey)
		}
		p := mach.New()
		p.Ask(get("ahead"), func(kv.Result) { t.Error("what was asked ahead goes on") })
		c(p, nil)
		if o, asks := p.Op(); !asks || o != want {
			t.Errorf("%s: asks %#v, %v", what, o, asks)
		}
	}
}

// Of two pools that meet just one comes, in whatever turns of who adds them.
func TestTwoPoolsThatMeet(t *testing.T) {
	for _, m := range []records{{}, {lockKey: "L"}} {
		for turns := range 1 << 12 {
			s := state(m)
			cs := []change{addPool(net), addPool(cidr.Net{Addr: base + 64, Bits: 26})}
			var procs [2]*mach.Proc
			var ends [2]api.Errno
			for k, c := range cs {
				procs[k] = mach.New()
				c(procs[k], func(e api.Errno) { ends[k] = e })
			}
			for k := range 12 {
				mach.Run(procs[turns>>k&1], s.Do, 1)
			}
			mach.Run(procs[0], s.Do, admin.Bound())
			mach.Run(procs[1], s.Do, admin.Bound())
			pools := s.Do(list("pool/")).Items
			slices.Sort(ends[:])
			if ends != [2]api.Errno{api.OK, api.ErrTaken} || len(pools) != 1 {
				t.Fatalf("turns %b: ended %v: %#v", turns, ends, pools)
			}
		}
	}
}
