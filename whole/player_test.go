// Package whole has tests alone: what holds of the whole, whatever lines are run, wherever clients stop, and at whatever write the disk goes away.
package whole

import (
	"fmt"
	"maps"
	"math/rand"
	"slices"
	"strconv"
	"strings"
	"testing"

	"virgate/api"
	"virgate/audit"
	"virgate/block"
	"virgate/client"
	"virgate/desk"
	"virgate/frame"
	"virgate/gc"
	"virgate/kv"
	"virgate/recs"
	"virgate/redo"
	"virgate/sched"
	"virgate/view"
)

// given is which addresses are given, and under what.
type given map[uint32]block.Attr

// deeds is what a client gave and freed by now.
type deeds struct{ gave, freed []uint32 }

// loss is what was asked when the disk went away, and what the client that asked it did.
type loss struct {
	op    kv.Op
	asked client.Op
}

// player runs lines, and holds behind each of them all that must hold.
type player struct {
	*testing.T
	s        *sched.Sched
	every    int
	places   int
	lines    []string // all that were run
	answers  []string
	state    *kv.State // all that was done, one thing behind the other
	seen     view.View // what that says
	asked    map[int]client.Op
	did      map[int]*deeds
	ever     map[string]map[uint32]bool // what was given at some time, by handles
	past     int                        // how many of those that are past were held
	lost     *loss
	collects bool // whether somebody collects, or did, while others were active
	counts   map[string]int
}

func newPlayer(t *testing.T, places, every int, counts map[string]int) *player {
	p := &player{T: t, s: sched.New(places, every), every: every, places: places, state: kv.New(), asked: map[int]client.Op{}, did: map[int]*deeds{}, ever: map[string]map[uint32]bool{}, counts: counts}
	p.seen, _ = view.Of(nil)
	return p
}

// fails tells which lines were run, and what is wrong then.
func (p *player) fails(what string, x ...any) {
	p.Helper()
	p.Fatalf("places %d, every %d:\n%s\n%s", p.places, p.every, strings.Join(p.lines[max(0, len(p.lines)-200):], "\n"), fmt.Sprintf(what, x...))
}

// run runs a line, and holds what must hold behind it.
func (p *player) run(line string) string {
	p.Helper()
	p.lines = append(p.lines, line)
	e, f := desk.Parse(line)
	o, asks := p.s.Asks(e.Client)
	dead := p.s.Lost()
	answer := desk.Run(p.s, line)
	p.answers = append(p.answers, answer)
	if f == api.OK && answer == "1" {
		switch e.Kind {
		case sched.Begin:
			p.begun(e.Client, e.Op)
		case sched.Step:
			if !asks {
				p.fails("%d makes a step, but asks nothing", e.Client)
			}
			p.stepped(e.Client, o, dead)
		case sched.Crash:
			p.crashed()
		}
	}
	if !slices.Equal(p.s.Items(), p.state.All()) || p.s.Rev() != p.state.Rev() {
		p.fails("at %d there is %+v; want, at %d, %+v", p.s.Rev(), p.s.Items(), p.state.Rev(), p.state.All())
	}
	p.settle()
	return answer
}

func (p *player) begun(k int, o client.Op) {
	p.asked[k], p.did[k] = o, &deeds{}
	p.collects = p.collects || o.Kind == client.Collect
	p.counts["begun"]++
}

// stepped holds what the client of place k did by asking o.
func (p *player) stepped(k int, o kv.Op, dead bool) {
	p.Helper()
	p.counts["steps"]++
	if !p.s.Lost() {
		p.state.Do(o)
		p.changed(p.asked[k], p.did[k])
	} else if !dead {
		p.lost = &loss{o, p.asked[k]}
		p.counts["lost"]++
	}
}

// crashed holds that the state is what was told, or is that behind one write more, at which the disk went away.
func (p *player) crashed() {
	p.Helper()
	if p.lost != nil && !slices.Equal(p.s.Items(), p.state.All()) {
		p.state.Do(p.lost.op)
		p.counts["more"]++
		p.changed(p.lost.asked, &deeds{})
	}
	p.lost = nil
	if p.s.Lost() {
		p.fails("behind a crash the disk is lost")
	}
}

// changed holds what has changed by a step of a client that does o, and notes what that gave and freed.
func (p *player) changed(o client.Op, d *deeds) {
	p.Helper()
	ahead := p.seen
	items := p.state.All()
	v, e := view.Of(items)
	if e != api.OK {
		p.fails("there is what is no record: %+v", items)
	}
	p.seen = v
	p.poolsGone(ahead)
	p.sound(items)
	was, is := given(ahead.Given()), given(v.Given())
	for addr, a := range is {
		if old, had := was[addr]; had && old == a {
			continue
		} else if had || !mayGive(o, addr, a) {
			p.fails("%+v gives %d under %+v; it was given: %v, under %+v", o, addr, a, had, old)
		}
		d.gave = append(d.gave, addr)
		if p.ever[a.Handle] == nil {
			p.ever[a.Handle] = map[uint32]bool{}
		}
		p.ever[a.Handle][addr] = true
	}
	for addr, a := range was {
		if _, still := is[addr]; still {
			continue
		}
		if !mayFree(o, addr, a, ahead.Nodes) {
			p.fails("%+v frees %d, that is given under %+v", o, addr, a)
		}
		d.freed = append(d.freed, addr)
	}
}

// mayGive tells whether one that does o may give addr under a.
func mayGive(o client.Op, addr uint32, a block.Attr) bool {
	own := a.Handle == o.Handle && a.Node == o.Node
	return own && (o.Kind == client.Auto || o.Kind == client.Exact && o.Addr == addr)
}

// mayFree is P0.3: a collector frees what was given for nodes that were gone, others what they name.
func mayFree(o client.Op, addr uint32, a block.Attr, gone map[string]bool) bool {
	switch o.Kind {
	case client.Free:
		return slices.Contains(o.L, addr)
	case client.FreeHandle:
		return a.Handle == o.Handle
	case client.Collect:
		return gone[a.Node]
	}
	return false
}

// poolsGone holds that those pools that went by this step were closed, and that no block lies in them.
func (p *player) poolsGone(ahead view.View) {
	p.Helper()
	for _, pool := range ahead.Pools {
		if slices.ContainsFunc(p.seen.Pools, func(q recs.Pool) bool { return q.Net == pool.Net }) {
			continue
		}
		p.counts["pools gone"]++
		if pool.Open {
			p.fails("%v goes, but is open", pool)
		}
		for _, b := range slices.Concat(ahead.Blocks, p.seen.Blocks) {
			if pool.Net.Has(b.Addr) {
				p.fails("%v goes, but %d lies in it", pool, b.Addr)
			}
		}
	}
}

// sound is P0.2, and P33.3: what must hold of all that there is.
func (p *player) sound(items []kv.Item) {
	p.Helper()
	owners := map[uint32]string{}
	for a, state := range p.seen.Affs {
		if state != recs.Confirmed {
			continue
		}
		if owners[a.Block] != "" {
			p.fails("%d is %s's and %s's", a.Block, a.Node, owners[a.Block])
		}
		owners[a.Block] = a.Node
	}
	for _, b := range p.seen.Blocks {
		if _, lies := p.seen.PoolOf(b.Addr); !lies {
			p.fails("%d lies in no pool", b.Addr)
		}
	}
	for k, n := range p.seen.Pools {
		for _, m := range p.seen.Pools[:k] {
			if uint64(n.Net.Addr) <= uint64(m.Net.Last()) && uint64(m.Net.Addr) <= uint64(n.Net.Last()) {
				p.fails("%v meets %v", n, m)
			}
		}
	}
	for _, f := range audit.Check(items, false) {
		if f.Kind != audit.Short || !p.collects {
			p.fails("there is a flaw: %v", f)
		}
		p.counts["short"]++
	}
}

// settle holds what was told to those that are past since then.
func (p *player) settle() {
	p.Helper()
	l := p.s.Past()
	for _, x := range l[p.past:] {
		if x.Ended && !p.mayTell(x.Op, *p.did[x.Client], x.Result) {
			p.fails("%+v is told %+v; it did %+v", x.Op, x.Result, *p.did[x.Client])
		}
		if x.Ended {
			p.counts["ended"]++
			p.counts["told"] += len(x.Result.L)
		}
	}
	p.past = len(l)
}

// mayTell is P0.1: who did what d has is told just that.
func (p *player) mayTell(o client.Op, d deeds, r client.Result) bool {
	did := d.freed
	switch o.Kind {
	case client.Auto, client.Exact:
		did = d.gave
		if r.Code == api.OK && (len(r.L) == 0 || o.Kind == client.Auto && len(r.L) > o.N) {
			return false
		}
	case client.Look:
		for _, addr := range r.L {
			if !p.ever[o.Handle][addr] {
				return false
			}
		}
		did = r.L
	}
	return slices.Equal(slices.Sorted(slices.Values(did)), slices.Sorted(slices.Values(r.L))) && (r.Code == api.OK || len(r.L) == 0)
}

// free tells a place where nobody is; if there is none, somebody is stopped.
func (p *player) free() string {
	p.Helper()
	active := p.s.Active()
	for k := range p.places {
		if !slices.Contains(active, k) {
			return strconv.Itoa(k)
		}
	}
	p.run("stop 0")
	return "0"
}

// alone lets a client do what the words say to its end, while all others stand still, and tells what it was told, and behind how many steps.
func (p *player) alone(words string) (client.Result, int) {
	p.Helper()
	k := p.free()
	if p.run("begin "+k+" "+words) != "1" {
		p.fails("%q does not begin", words)
	}
	place, _ := strconv.Atoi(k)
	steps := 0
	for slices.Contains(p.s.Active(), place) {
		p.run("step " + k)
		steps++
	}
	l := p.s.Past()
	x := l[len(l)-1]
	if !x.Ended || x.Client != place {
		p.fails("%q does not end: %+v", words, x)
	}
	return x.Result, steps
}

// recovers lets the disk be there again, and not armed.
func (p *player) recovers() {
	p.run("crash")
}

// collected is P0.5 and P33.3: behind a collector, alone, nothing is left over; and P0.3: just what was given for nodes that are gone is free.
func (p *player) collected() {
	p.Helper()
	want := maps.Clone(given(p.seen.Given()))
	maps.DeleteFunc(want, func(_ uint32, a block.Attr) bool { return p.seen.Nodes[a.Node] })
	bound := gc.Bound(len(p.s.Items()))
	r, steps := p.alone("collect")
	if r.Code != api.OK || steps > bound {
		p.fails("collecting ends with %+v behind %d steps", r, steps)
	}
	if got := given(p.seen.Given()); !maps.Equal(got, want) {
		p.fails("behind collecting given is %v; want %v", got, want)
	}
	if l := audit.Check(p.s.Items(), true); len(l) != 0 || p.run("audit") != "0 0 0 0 0 0 0 0 0 0 0" {
		p.fails("behind collecting there are %v", l)
	}
	p.tidy()
	p.counts["collected"]++
	// Who is active still may have counted what is not counted any more.
	p.collects = len(p.s.Active()) > 0
}

// tidy holds that nothing is left over, as chapter 29 says it.
func (p *player) tidy() {
	p.Helper()
	counted := map[string]map[uint32]int{}
	for _, b := range p.seen.Blocks {
		if b.Aff == "" && len(b.Free) == 64 {
			p.fails("%d is nobody's, and empty", b.Addr)
		}
		for a, n := range b.Count() {
			if counted[a.Handle] == nil {
				counted[a.Handle] = map[uint32]int{}
			}
			counted[a.Handle][b.Addr] += n
			if p.seen.Nodes[a.Node] {
				p.fails("%d has some of %s, which is gone", b.Addr, a.Node)
			}
		}
	}
	for a, state := range p.seen.Affs {
		if state != recs.Confirmed || p.seen.Nodes[a.Node] {
			p.fails("%+v stands at %d, gone: %v", a, state, p.seen.Nodes[a.Node])
		}
	}
	if len(counted) != len(p.seen.Handles) {
		p.fails("there are the handles %v; want %v", p.seen.Handles, counted)
	}
	for id, h := range p.seen.Handles {
		for _, c := range h.Counts {
			if counted[id][c.Block] != c.N || len(counted[id]) != len(h.Counts) {
				p.fails("%s has %v; want %v", id, h, counted[id])
			}
		}
	}
}

// within tells how many addresses are free that node may be given, and whether there is an open pool.
func (p *player) within(node string, borrow bool) (int, bool) {
	n, open := 0, false
	for _, pool := range p.seen.Pools {
		open = open || pool.Open
		for a := pool.Net.Addr; pool.Open && pool.Net.Has(a); a += 64 {
			b, there := p.seen.Block(a)
			switch {
			case !there:
				n += 64
			case borrow || b.Aff == "" || b.Aff == node:
				n += len(b.Free)
			}
		}
	}
	return n, open
}

// givenBack is P0.5 and P0.6: alone, behind a collector, a node is given as many as it wants, as far as there are some, and what it frees leaves given just what was given ahead.
func (p *player) givenBack(node string, n int, borrow, byHandle bool) {
	p.Helper()
	ahead := maps.Clone(given(p.seen.Given()))
	words := "auto " + node + " fresh " + strconv.Itoa(n)
	if borrow {
		words += " borrow"
	}
	free, open := p.within(node, borrow)
	gone, there := p.seen.Nodes[node]
	want, e := min(n, free), api.OK
	switch {
	case !there || gone:
		want, e = 0, api.ErrState
	case !open:
		want, e = 0, api.ErrNone
	case want == 0:
		e = api.ErrFull
	}
	r, _ := p.alone(words)
	if r.Code != e || len(r.L) != want {
		p.fails("%q is told %d addresses, and %d; want %d, and %d", words, len(r.L), r.Code, want, e)
	}
	p.counts["given back"] += want
	if want == 0 {
		return
	}
	if byHandle {
		words = "freehandle fresh"
	} else {
		words, _ = desk.Say(client.Op{Kind: client.Free, L: r.L})
	}
	back, _ := p.alone(words)
	slices.Sort(r.L)
	slices.Sort(back.L)
	if back.Code != api.OK || !slices.Equal(back.L, r.L) {
		p.fails("%q is told %+v; want %v", words, back, r.L)
	}
	if got := given(p.seen.Given()); !maps.Equal(got, ahead) {
		p.fails("given is %v; want %v", got, ahead)
	}
	if l := audit.Check(p.s.Items(), true); len(l) != 0 {
		p.fails("behind giving back there are %v", l)
	}
}

// again holds that all lines, run once more as one text, are answered the same, and leave the same.
func (p *player) again() {
	p.Helper()
	s := sched.New(p.places, p.every)
	if got := desk.Script(s, strings.Join(p.lines, "\n")); !slices.Equal(got, p.answers) {
		p.fails("once more it is answered otherwise")
	}
	if !slices.Equal(s.Items(), p.s.Items()) || fmt.Sprintf("%+v", s.Past()) != fmt.Sprintf("%+v", p.s.Past()) {
		p.fails("once more something else comes of it")
	}
}

// lossFrame tells how many bytes the log has more, if all of what was asked when the disk went away has come.
func (p *player) lossFrame() int {
	_, effect, _ := p.state.Plan(p.lost.op)
	b, _ := redo.Put(effect)
	b, _ = frame.Put(b)
	return len(b)
}

// crashLine tells a crash that leaves any of what is not sure, or, often, all of the log.
func (p *player) crashLine(chance *rand.Rand) string {
	line := "crash"
	if p.lost != nil && chance.Intn(2) == 0 {
		line += " " + strconv.Itoa(p.lossFrame())
	}
	for range chance.Intn(4) {
		line += " " + strconv.Itoa(chance.Intn(1<<chance.Intn(17)))
	}
	return line
}
