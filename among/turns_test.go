package among

import (
	"fmt"
	"maps"
	"math/rand"
	"slices"
	"strconv"
	"strings"
	"testing"

	"virgate/admin"
	"virgate/api"
	"virgate/auto"
	"virgate/block"
	"virgate/byhand"
	"virgate/cidr"
	"virgate/claim"
	"virgate/drop"
	"virgate/exact"
	"virgate/free"
	"virgate/gc"
	"virgate/grab"
	"virgate/handle"
	"virgate/kv"
	"virgate/leave"
	"virgate/mach"
	"virgate/recs"
	"virgate/view"
)

// want is what is wanted of a block.
type want = grab.Want

// actor is one of several that take turns; it is told at its end what it gave, or freed.
type actor struct {
	name  string
	gives block.Attr // under which it gives; the zero one, if it gives nothing
	frees drop.What  // what it frees
	looks string     // the handle that it looks up, if it does that
	gc    bool       // whether it collects, and so frees what was given for nodes that are gone
	start func(end func(l []uint32, e api.Errno)) (*mach.Proc, func())
}

// onward tells what starts somebody who goes on by a procedure of the project's own.
func onward(f func(p *mach.Proc, end func(l []uint32, e api.Errno))) func(end func(l []uint32, e api.Errno)) (*mach.Proc, func()) {
	return func(end func(l []uint32, e api.Errno)) (*mach.Proc, func()) {
		p := mach.New()
		f(p, end)
		return p, func() {}
	}
}

// byWords tells what starts somebody who does what f does.
func byWords(f func(ask asker) ([]uint32, api.Errno)) func(end func(l []uint32, e api.Errno)) (*mach.Proc, func()) {
	return func(end func(l []uint32, e api.Errno)) (*mach.Proc, func()) { return stepwise(f, end) }
}

func leaves(node string) actor {
	return actor{name: "leave " + node, start: onward(func(p *mach.Proc, end func(l []uint32, e api.Errno)) {
		leave.Go(p, node, base, func(e api.Errno) { end(nil, e) })
	})}
}

func claims(node string) actor {
	return actor{name: "claim " + node, start: onward(func(p *mach.Proc, end func(l []uint32, e api.Errno)) {
		claim.Go(p, node, base+17, func(e api.Errno) { end(nil, e) })
	})}
}

func grabs(w want) actor {
	return actor{name: fmt.Sprintf("grab %+v", w), gives: w.Attr, start: onward(func(p *mach.Proc, end func(l []uint32, e api.Errno)) {
		grab.Go(p, base+5, w, end)
	})}
}

func drops(w drop.What) actor {
	return actor{name: fmt.Sprintf("drop %+v", w), frees: w, start: onward(func(p *mach.Proc, end func(l []uint32, e api.Errno)) {
		drop.Go(p, base+60, w, end)
	})}
}

func gives(w auto.Want) actor {
	return actor{name: fmt.Sprintf("give %+v", w), gives: w.Attr, start: onward(func(p *mach.Proc, end func(l []uint32, e api.Errno)) {
		auto.Go(p, w, end)
	})}
}

func givesOne(a block.Attr, addr uint32) actor {
	return actor{name: fmt.Sprintf("give %d under %+v", addr, a), gives: a, start: onward(func(p *mach.Proc, end func(l []uint32, e api.Errno)) {
		exact.Go(p, a, addr, end)
	})}
}

func frees(l []uint32) actor {
	return actor{name: fmt.Sprintf("free %v", l), frees: drop.What{Kind: drop.List, L: l}, start: onward(func(p *mach.Proc, end func(l []uint32, e api.Errno)) {
		free.Go(p, l, end)
	})}
}

func collects() actor {
	return actor{name: "collect", gc: true, start: onward(gc.Go)}
}

func tidies() actor {
	return actor{name: "tidy", start: byWords(func(ask asker) ([]uint32, api.Errno) {
		tidyByWords(ask, base)
		return nil, api.OK
	})}
}

// changes tells somebody who is told nothing but an error.
func changes(what string, f func(p *mach.Proc, then func(e api.Errno))) actor {
	return actor{name: what, start: onward(func(p *mach.Proc, end func(l []uint32, e api.Errno)) {
		f(p, func(e api.Errno) { end(nil, e) })
	})}
}

func dropsPool() actor {
	return changes("close and drop the pool", func(p *mach.Proc, then func(e api.Errno)) {
		admin.SetPool(p, pool24, false, func(api.Errno) { admin.DropPool(p, pool24, then) })
	})
}

func justDropsPool() actor {
	return changes("drop the pool", func(p *mach.Proc, then func(e api.Errno)) { admin.DropPool(p, pool24, then) })
}

func setsPool(open bool) actor {
	return changes(fmt.Sprintf("let the pool be open: %v", open), func(p *mach.Proc, then func(e api.Errno)) { admin.SetPool(p, pool24, open, then) })
}

func addsPool(n cidr.Net) actor {
	return changes("add the pool "+cidr.Print(n), func(p *mach.Proc, then func(e api.Errno)) { admin.AddPool(p, n, then) })
}

func addsNode(name string) actor {
	return changes("add "+name, func(p *mach.Proc, then func(e api.Errno)) { admin.AddNode(p, name, then) })
}

func dropsNode(name string) actor {
	return changes("drop "+name, func(p *mach.Proc, then func(e api.Errno)) { admin.DropNode(p, name, then) })
}

func freesHandle(id string) actor {
	return actor{name: "free " + id, frees: drop.What{Kind: drop.Handle, ID: id}, start: onward(func(p *mach.Proc, end func(l []uint32, e api.Errno)) {
		byhand.Go(p, id, end)
	})}
}

func looksUp(id string) actor {
	return actor{name: "look " + id + " up", looks: id, start: onward(func(p *mach.Proc, end func(l []uint32, e api.Errno)) {
		byhand.Look(p, id, end)
	})}
}

// world tells a state of a pool, three nodes of which one is gone, affinities by their nodes, and the block, if it is not empty, with the handles that it has.
func world(affs map[string]string, blk string) *kv.State {
	s := kv.New()
	items := map[string]string{poolKey: openPool, "node/n1": present, "node/n2": present, "node/n3": gone}
	for node, val := range affs {
		items["aff/"+node+"/10.0.0.0-26"] = val
	}
	if blk != "" {
		items[blkKey] = blk
		maps.Copy(items, handlesOf(blk))
	}
	for _, key := range slices.Sorted(maps.Keys(items)) {
		s.Do(kv.Op{Kind: kv.Create, Key: key, Val: items[key]})
	}
	return s
}

// withNext tells s with the block behind that one, of which 3 are given, and which is aff's.
func withNext(s *kv.State, aff string) *kv.State {
	b := blockAt(base+64, aff, 3)
	s.Do(kv.Op{Kind: kv.Create, Key: "block/10.0.0.64-26", Val: b})
	if aff != "" {
		s.Do(kv.Op{Kind: kv.Create, Key: "aff/" + aff + "/10.0.0.64-26", Val: confirmed})
	}
	for _, key := range slices.Sorted(maps.Keys(handlesOf(b))) {
		r := s.Do(get(key))
		h, _ := handle.Read(r.Val)
		more, _ := handle.Read(handlesOf(b)[key])
		h, _ = handle.Add(h, base+64, more.Total())
		val, _ := handle.Put(h)
		s.Do(kv.Op{Kind: kv.Create, Key: key, Val: val})
		s.Do(update(key, val, r.Rev))
	}
	return s
}

// worlds tells states in which all that must hold holds.
func worlds() []*kv.State {
	var l []*kv.State
	for _, n := range []int{0, 3} {
		for _, val := range []string{pending, confirmed, leaving} {
			l = append(l, world(map[string]string{"n1": val}, blockOf("n1", n)))
			l = append(l, world(map[string]string{"n1": val, "n2": pending}, blockOf("n1", n)))
		}
		for _, val := range []string{pending, leaving} {
			l = append(l, world(map[string]string{"n1": val}, ""))
			l = append(l, world(map[string]string{"n1": val}, blockOf("", n)))
			l = append(l, world(map[string]string{"n1": val, "n2": confirmed}, blockOf("n2", n)))
		}
	}
	l = append(l, withNext(world(map[string]string{"n1": confirmed}, blockOf("n1", 3)), "n2"), withNext(world(nil, blockOf("", 2)), ""))
	return append(l, world(nil, ""), world(nil, blockOf("", 3)), world(map[string]string{"n1": confirmed}, blockOf("n1", 63)))
}

// copied tells a state that is the same, and goes its own way.
func copied(s *kv.State) *kv.State {
	c, _ := kv.Of(s.Rev(), s.All())
	return c
}

// wrong tells what does not hold in s.
func wrong(v view.View) string {
	owners := map[uint32]int{}
	for k, p := range v.Pools {
		if slices.ContainsFunc(v.Pools[:k], func(ahead recs.Pool) bool { return meet(p.Net, ahead.Net) }) {
			return "two pools meet"
		}
	}
	for a, state := range v.Affs {
		b, there := v.Block(a.Block)
		if state == recs.Confirmed && (!there || b.Aff != a.Node) {
			return a.Node + " is Confirmed, but the block is not its own"
		}
		if state == recs.Confirmed {
			owners[a.Block]++
		}
		if _, lies := v.PoolOf(a.Block); !lies || owners[a.Block] > 1 {
			return "an affinity lies in no pool, or two are Confirmed"
		}
	}
	for _, b := range v.Blocks {
		if _, there := v.Affs[view.Aff{Node: b.Aff, Block: b.Addr}]; b.Aff != "" && !there {
			return "the block is of " + b.Aff + ", which has no affinity"
		}
		if _, lies := v.PoolOf(b.Addr); !lies {
			return "a block lies in no pool"
		}
	}
	return ""
}

// short tells under which handle more is given than counted.
func short(v view.View) string {
	for _, b := range v.Blocks {
		for id, n := range perHandle(b) {
			if h := v.Handles[id]; h.Of(b.Addr) < n {
				return "more is given than counted under " + id
			}
		}
	}
	return ""
}

// perHandle tells how many addresses of b are given under each handle.
func perHandle(b block.Block) map[string]int {
	n := map[string]int{}
	for a, k := range b.Count() {
		n[a.Handle] += k
	}
	return n
}

// isExact tells whether the handles of v have just what is given, once it is known that none has less.
func isExact(v view.View) bool {
	total := 0
	for _, h := range v.Handles {
		total += h.Total()
	}
	return total == len(v.Given())
}

// part is one of a troupe, and what it has done by now.
type part struct {
	actor
	proc  *mach.Proc
	stop  func()
	gave  []uint32
	freed []uint32
	ended bool
	told  []uint32
	e     api.Errno
}

// troupe is several that take turns at one state.
type troupe struct {
	state  *kv.State
	seen   view.View // what is there
	given  map[uint32]block.Attr
	ever   map[string][]uint32 // what was given at some time, by handles
	always map[string][]uint32 // what was given all the time, by handles
	parts  []*part
	turns  []int // who took them
}

func gather(s *kv.State, l []actor) *troupe {
	v, _ := view.Of(s.All())
	x := &troupe{state: copied(s), seen: v, given: v.Given(), ever: map[string][]uint32{}, always: map[string][]uint32{}}
	for addr, a := range x.given {
		x.ever[a.Handle] = append(x.ever[a.Handle], addr)
		x.always[a.Handle] = append(x.always[a.Handle], addr)
	}
	for _, a := range l {
		p := &part{actor: a}
		p.proc, p.stop = a.start(func(l []uint32, e api.Errno) { p.told, p.e, p.ended = l, e, true })
		x.parts = append(x.parts, p)
	}
	return x
}

func (x *troupe) dismiss() {
	for _, p := range x.parts {
		p.stop()
	}
}

// asking tells which of them ask something.
func (x *troupe) asking() []int {
	var l []int
	for k, p := range x.parts {
		if _, asks := p.proc.Op(); asks {
			l = append(l, k)
		}
	}
	return l
}

// collected tells whether one of them collects: by what blocks said a while ago a handle may then get fewer than somebody counted meanwhile, who then gives.
func (x *troupe) collected() bool {
	return slices.ContainsFunc(x.parts, func(p *part) bool { return p.gc })
}

// last tells who took the last turn, or -1.
func (x *troupe) last() int {
	if len(x.turns) == 0 {
		return -1
	}
	return x.turns[len(x.turns)-1]
}

func (x *troupe) story() string {
	var l []string
	for _, k := range x.turns {
		l = append(l, x.parts[k].name)
	}
	return strings.Join(l, ", ")
}

// step lets the k-th one do a step, and holds that nothing is wrong behind it.
func (x *troupe) step(t *testing.T, k int) {
	t.Helper()
	x.turns = append(x.turns, k)
	p, rev := x.parts[k], x.state.Rev()
	mach.Run(p.proc, x.state.Do, 1)
	if x.state.Rev() != rev {
		x.look(t, p)
	}
	if p.ended && !x.mayBeTold(p) {
		t.Fatalf("%s ended with %v, %d; gave %v, freed %v behind the turns %s", p.name, p.told, p.e, p.gave, p.freed, x.story())
	}
}

// look holds what is there behind a write of p, and notes what that gave and freed.
func (x *troupe) look(t *testing.T, p *part) {
	t.Helper()
	v, e := view.Of(x.state.All())
	w := wrong(v)
	if w == "" && !x.collected() {
		w = short(v)
	}
	if e != api.OK || w != "" {
		t.Fatalf("%d, %s behind the turns %s: %#v", e, w, x.story(), x.state.All())
	}
	if w := lostIn(x.seen, v); w != "" {
		t.Fatalf("%s behind the turns %s: %#v", w, x.story(), x.state.All())
	}
	x.seen = v
	ahead := x.given
	x.given = v.Given()
	for addr, a := range x.given {
		if was, had := ahead[addr]; had && was != a || !had && a != p.gives {
			t.Fatalf("%d was given under %v, is given under %v behind the turns %s", addr, was, a, x.story())
		} else if !had {
			p.gave = append(p.gave, addr)
			x.ever[a.Handle] = append(x.ever[a.Handle], addr)
		}
	}
	for addr, a := range ahead {
		if _, has := x.given[addr]; !has {
			p.freed = append(p.freed, addr)
			x.always[a.Handle] = slices.DeleteFunc(x.always[a.Handle], func(b uint32) bool { return b == addr })
			if !isMeant(p.frees, addr, a) && !(p.gc && x.seen.Nodes[a.Node]) {
				t.Fatalf("%d was given under %v, is free behind the turns %s", addr, a, x.story())
			}
		}
	}
}

// lostIn tells what may not be gone, or come again, by what was there ahead and what is there now.
func lostIn(ahead, now view.View) string {
	for _, p := range ahead.Pools {
		if p.Open && !slices.ContainsFunc(now.Pools, func(q recs.Pool) bool { return q.Net == p.Net }) {
			return "a pool is gone that was open"
		}
	}
	for name, was := range ahead.Nodes {
		if is, there := now.Nodes[name]; !there || was && !is {
			return name + " was gone, or was there"
		}
	}
	return ""
}

// mayBeTold holds what p was told at its end: what its steps did; but who looks a handle up is told what was given under that, rising, and nothing less than what was so all the time, if nobody collects.
func (x *troupe) mayBeTold(p *part) bool {
	if p.looks == "" {
		return p.toldWhatItDid()
	}
	for k, addr := range p.told {
		if !slices.Contains(x.ever[p.looks], addr) || k > 0 && p.told[k-1] >= addr {
			return false
		}
	}
	for _, addr := range x.always[p.looks] {
		if !slices.Contains(p.told, addr) && !x.collected() {
			return false
		}
	}
	return true
}

// toldWhatItDid holds what p was told at its end against what its steps did.
func (p *part) toldWhatItDid() bool {
	did := slices.Sorted(slices.Values(slices.Concat(p.gave, p.freed)))
	return slices.Equal(did, slices.Sorted(slices.Values(p.told))) && (p.e == api.OK || len(p.told) == 0)
}

// play lets them take turns as path says, and behind that go on each to its end; it tells of each turn who asked.
func (x *troupe) play(t *testing.T, path []int) [][]int {
	t.Helper()
	defer x.dismiss()
	var asked [][]int
	for l := x.asking(); len(l) > 0; l = x.asking() {
		k := l[0]
		if n := len(asked); n < len(path) {
			k = path[n]
		} else if slices.Contains(l, x.last()) {
			k = x.last()
		}
		asked = append(asked, l)
		x.step(t, k)
	}
	if x.collected() {
		wantCollected(t, x.state, x.story())
	}
	// So few turns tire nobody out, so that all that was counted too much was taken back.
	if v, _ := view.Of(x.state.All()); !isExact(v) {
		t.Fatalf("counted is not what is given behind the turns %s: %#v", x.story(), x.state.All())
	}
	return asked
}

// branch is how turns begin, and how often one was broken off in them.
type branch struct {
	path   []int
	breaks int
}

// everyTurn goes through all turns in which no more than so many times one is broken off ahead of its end.
func everyTurn(t *testing.T, s *kv.State, breaks int, l ...actor) {
	t.Helper()
	for work := []branch{{}}; len(work) > 0; {
		b := work[len(work)-1]
		work = work[:len(work)-1]
		x := gather(s, l)
		asked := x.play(t, b.path)
		for n := len(b.path); n < len(asked); n++ {
			more := b.breaks
			if n > 0 && slices.Contains(asked[n], x.turns[n-1]) {
				more++
			}
			for _, k := range asked[n] {
				if k != x.turns[n] && more <= breaks {
					work = append(work, branch{append(slices.Clone(x.turns[:n]), k), more})
				}
			}
		}
	}
}

// some of h1, and just one of h2, of whosever block it is; some of n1's own.
var (
	two  = want{N: 2, Attr: attr("h1", "n1")}
	one  = want{One: true, At: base + 4, Attr: attr("h2", "n2")}
	own  = want{N: 3, Attr: attr("h1", "n1"), Own: "n1"}
	more = want{N: 64, Attr: attr("h3", "n2")}
)

// What is given under a handle; some addresses, just one of which many have; what is given for nodes.
var (
	ofH1   = drop.What{Kind: drop.Handle, ID: "h1"}
	ofH2   = drop.What{Kind: drop.Handle, ID: "h2"}
	ofH3   = drop.What{Kind: drop.Handle, ID: "h3"}
	few    = drop.What{Kind: drop.List, L: []uint32{base + 2, base, base + 70, base + 1, base + 2}}
	first  = drop.What{Kind: drop.List, L: []uint32{base}}
	ofN1   = drop.What{Kind: drop.Nodes, Nodes: []string{"n1"}}
	ofBoth = drop.What{Kind: drop.Nodes, Nodes: []string{"n2", "n3", "n1"}}
)

// Addresses, wherever there are some: few, more than a block has, all that are free, some for a node that is gone.
var (
	anyTwo  = auto.Want{Attr: attr("h1", "n1"), N: 2}
	anyMany = auto.Want{Attr: attr("h2", "n2"), N: 70}
	anyAll  = auto.Want{Attr: attr("h3", "n2"), N: 300, Borrow: true}
	forGone = auto.Want{Attr: attr("h1", "n3"), N: 2, Borrow: true}
)

// Addresses of two blocks, the later one first; two of the block that most do something with.
var (
	ofTwo = []uint32{base + 66, base + 1, base + 64, base}
	ofOne = []uint32{base + 2, base + 4}
)

// Just one address that is free for the most part, for each of two nodes, and for one that is gone; one that is given for the most part; one of the next block.
var (
	oneOfH1   = givesOne(attr("h1", "n1"), base+4)
	oneOfH2   = givesOne(attr("h2", "n2"), base+4)
	oneOfGone = givesOne(attr("h1", "n3"), base+4)
	oneGiven  = givesOne(attr("h2", "n1"), base+1)
	oneNext   = givesOne(attr("h1", "n1"), base+67)
)

// troupes tells who take turns in all ways that are not too many.
func troupes() [][]actor {
	return [][]actor{
		{leaves("n1"), leaves("n1")},
		{leaves("n1"), claims("n1")},
		{leaves("n1"), claims("n2")},
		{leaves("n1"), grabs(two)},
		{leaves("n1"), grabs(own)},
		{leaves("n1"), drops(ofH1)},
		{claims("n1"), claims("n1")},
		{claims("n1"), claims("n2")},
		{claims("n1"), tidies()},
		{claims("n1"), dropsPool()},
		{claims("n1"), dropsNode("n1")},
		{claims("n1"), grabs(two)},
		{claims("n1"), drops(ofH1)},
		{grabs(two), grabs(one)},
		{grabs(one), grabs(one)},
		{grabs(own), grabs(more)},
		{grabs(two), drops(ofH1)},
		{grabs(more), drops(ofH2)},
		{grabs(one), drops(few)},
		{grabs(two), drops(ofN1)},
		{drops(ofH1), drops(ofH1)},
		{drops(few), drops(first)},
		{drops(ofN1), drops(ofBoth)},
		{drops(few), tidies()},
		{drops(ofBoth), dropsPool()},
		{gives(anyTwo), leaves("n1")},
		{gives(anyTwo), claims("n2")},
		{gives(anyTwo), drops(ofBoth)},
		{gives(anyTwo), grabs(more)},
		{gives(anyTwo), tidies()},
		{gives(anyTwo), dropsPool()},
		{gives(anyTwo), dropsNode("n1")},
		{gives(anyTwo), gives(anyTwo)},
		{gives(anyTwo), gives(anyMany)},
		{oneOfH1, oneOfH1},
		{oneOfH1, oneOfH2},
		{oneOfH2, oneGiven},
		{oneOfH1, leaves("n1")},
		{oneOfH1, claims("n2")},
		{oneOfH1, grabs(one)},
		{oneOfH2, drops(ofH2)},
		{oneOfH1, tidies()},
		{oneOfH1, dropsPool()},
		{oneOfH1, dropsNode("n1")},
		{oneOfH1, frees(ofOne)},
		{oneGiven, frees(ofTwo)},
		{frees(ofTwo), frees(ofTwo)},
		{frees(ofTwo), frees(ofOne)},
		{frees(ofTwo), drops(ofH1)},
		{frees(ofTwo), grabs(two)},
		{frees(ofTwo), leaves("n1")},
		{frees(ofTwo), claims("n2")},
		{frees(ofTwo), tidies()},
		{frees(ofTwo), dropsPool()},
		{frees(ofTwo), gives(anyTwo)},
		{freesHandle("h1"), freesHandle("h1")},
		{freesHandle("h1"), looksUp("h1")},
		{freesHandle("h1"), frees(ofTwo)},
		{freesHandle("h1"), drops(ofBoth)},
		{freesHandle("h1"), grabs(two)},
		{freesHandle("h2"), oneOfH2},
		{freesHandle("h1"), gives(anyTwo)},
		{freesHandle("h1"), leaves("n1")},
		{freesHandle("h2"), claims("n2")},
		{freesHandle("h1"), tidies()},
		{freesHandle("h1"), dropsPool()},
		{looksUp("h1"), grabs(two)},
		{looksUp("h1"), drops(ofBoth)},
		{looksUp("h2"), frees(ofTwo)},
		{dropsPool(), dropsPool()},
		{dropsPool(), setsPool(true)},
		{dropsPool(), addsPool(pool24)},
		{dropsPool(), addsPool(pool23)},
		{dropsPool(), leaves("n1")},
		{justDropsPool(), setsPool(false)},
		{setsPool(false), claims("n1")},
		{addsPool(pool23), addsPool(nextNet)},
		{addsPool(nextNet), addsPool(nextNet)},
		{addsPool(farNet), gives(anyAll)},
		{addsNode("n4"), addsNode("n4")},
		{addsNode("n4"), dropsNode("n4")},
		{addsNode("n1"), dropsNode("n1")},
		{dropsNode("n1"), dropsNode("n1")},
		{addsNode("n4"), claims("n4")},
		{collects(), collects()},
		{collects(), leaves("n1")},
		{collects(), claims("n1")},
		{collects(), claims("n2")},
		{collects(), grabs(two)},
		{collects(), grabs(own)},
		{collects(), drops(ofBoth)},
		{collects(), gives(anyTwo)},
		{collects(), oneOfH2},
		{collects(), oneOfGone},
		{collects(), frees(ofTwo)},
		{collects(), freesHandle("h1")},
		{collects(), looksUp("h1")},
		{collects(), dropsPool()},
		{collects(), dropsNode("n1")},
		{leaves("n1"), leaves("n1"), claims("n1")},
		{dropsPool(), setsPool(true), claims("n1")},
		{dropsPool(), addsPool(pool23), claims("n1")},
		{dropsPool(), addsPool(pool24), claims("n1")},
		{addsPool(nextNet), addsPool(pool23), dropsPool()},
		{freesHandle("h1"), looksUp("h1"), grabs(two)},
		{freesHandle("h1"), freesHandle("h2"), tidies()},
		{freesHandle("h1"), claims("n1"), leaves("n1")},
		{leaves("n1"), claims("n1"), grabs(own)},
		{leaves("n1"), leaves("n2"), tidies()},
		{leaves("n1"), drops(ofH1), grabs(two)},
		{claims("n1"), claims("n2"), leaves("n1")},
		{claims("n1"), leaves("n1"), dropsPool()},
		{claims("n1"), drops(ofH2), tidies()},
		{grabs(two), grabs(one), drops(ofH1)},
		{drops(few), drops(ofH2), drops(ofN1)},
		{gives(anyTwo), claims("n2"), drops(ofBoth)},
		{oneOfH1, oneOfH2, frees(ofOne)},
		{oneOfH1, oneOfH2, leaves("n1")},
		{frees(ofTwo), frees(ofOne), oneGiven},
		{collects(), dropsNode("n1"), grabs(two)},
		{collects(), dropsNode("n1"), claims("n1")},
		{collects(), dropsNode("n1"), collects()},
		{collects(), oneOfH1, leaves("n1")},
	}
}

// Two in all their turns that break one off at most twice, three in those that do so once: what holds stays so, and each is told at its end just what its steps did.
func TestEveryTurn(t *testing.T) {
	for k, s := range worlds() {
		t.Run(strconv.Itoa(k), func(t *testing.T) {
			t.Parallel()
			for _, l := range troupes() {
				breaks := 2
				if len(l) > 2 {
					breaks = 1
				}
				everyTurn(t, s, breaks, l...)
			}
		})
	}
}

// Many in any turns, each of which may stop for ever: what holds stays so, and whoever goes on alone behind that does what he does alone.
func TestAnyTurn(t *testing.T) {
	chance := rand.New(rand.NewSource(2140))
	kinds := []actor{
		leaves("n1"), leaves("n1"), leaves("n2"), leaves("n3"), claims("n1"), claims("n1"), claims("n2"), claims("n3"), claims("n4"),
		grabs(two), grabs(two), grabs(one), grabs(own), grabs(more), drops(ofH1), drops(ofH1), drops(ofH2), drops(ofH3), drops(few), drops(first), drops(ofN1), drops(ofBoth),
		gives(anyTwo), gives(anyTwo), gives(anyMany), gives(anyAll), gives(forGone),
		oneOfH1, oneOfH1, oneOfH2, oneOfH2, oneOfGone, oneGiven, oneNext, frees(ofTwo), frees(ofTwo), frees(ofOne), frees(someOf(base-1, 300)),
		tidies(), dropsPool(), dropsPool(), setsPool(true), setsPool(true), justDropsPool(), addsPool(pool24), addsPool(pool23), addsPool(nextNet),
		collects(), collects(), collects(), dropsNode("n1"), dropsNode("n2"), addsNode("n4"), freesHandle("h1"), freesHandle("h2"), freesHandle("h3"), looksUp("h1"), looksUp("h2"),
	}
	l := worlds()
	for range 4000 {
		var some []actor
		for range 3 + chance.Intn(6) {
			some = append(some, kinds[chance.Intn(len(kinds))])
		}
		x := gather(l[chance.Intn(len(l))], some)
		for asking := x.asking(); len(asking) > 0 && chance.Intn(60) > 0; asking = x.asking() {
			x.step(t, asking[chance.Intn(len(asking))])
		}
		x.dismiss()
		for _, node := range []string{"n1", "n2", "n3", "n4"} {
			s := copied(x.state)
			wantClaimed(t, s, node, base+17, x.story())
			wantLeft(t, s, node, x.story())
			wantClaimed(t, s, node, base+17, x.story())
		}
		for _, w := range []drop.What{first, few, ofN1, ofH2, ofBoth} {
			wantDropped(t, copied(x.state), base+60, w, x.story())
		}
		for _, w := range []auto.Want{anyTwo, anyMany, anyAll, forGone} {
			wantGiven(t, copied(x.state), w, x.story())
		}
		for _, addr := range []uint32{base, base + 4, base + 66} {
			wantGivenOne(t, copied(x.state), attr("h2", "n2"), addr, x.story())
		}
		for _, l := range [][]uint32{ofTwo, ofOne, someOf(base-1, 300)} {
			wantFreed(t, copied(x.state), l, x.story())
		}
		wantByHand(t, x.state, x.story())
		wantCollected(t, copied(x.state), x.story())
		for _, w := range []want{two, one, own, more, two} {
			wantGrabbed(t, x.state, base+5, w, x.story())
		}
	}
}
