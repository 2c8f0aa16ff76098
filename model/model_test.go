package model_test

import (
	"maps"
	"math"
	"math/rand"
	"slices"
	"testing"

	"virgate/api"
	"virgate/block"
	"virgate/cidr"
	"virgate/client"
	"virgate/frame"
	"virgate/image"
	"virgate/kv"
	"virgate/model"
	"virgate/names"
	"virgate/redo"
	"virgate/sched"
	"virgate/view"
)

// base is the first address of the pool that most is done in.
const base = 10 << 24

var (
	n1h1 = block.Attr{Handle: "h1", Node: "n1"}
	n2h1 = block.Attr{Handle: "h1", Node: "n2"}
	n1h2 = block.Attr{Handle: "h2", Node: "n1"}
	n3h3 = block.Attr{Handle: "h3", Node: "n3"}
)

// given is which addresses are given, less base, and under what.
type given map[uint32]block.Attr

// items tells items by which just that is given; the nodes n1 and n2 are there, n3 is gone.
func items(g given) []kv.Item {
	blocks := map[uint32]block.Block{}
	for _, k := range slices.Sorted(maps.Keys(g)) {
		b, there := blocks[k/64]
		if !there {
			b, _ = block.New(base+k, "")
		}
		blocks[k/64], _ = block.AssignAt(b, base+k, g[k])
	}
	l := []kv.Item{{Key: "node/n1", Val: "N\x00", Rev: 1}, {Key: "node/n2", Val: "N\x00", Rev: 2}, {Key: "node/n3", Val: "N\x01", Rev: 3}}
	for _, b := range blocks {
		val, _ := image.Put(b)
		l = append(l, kv.Item{Key: names.Block(b.Addr), Val: val, Rev: 4})
	}
	return l
}

// of tells that model in which just that is given, of a client that is nobody else's.
func of(t *testing.T, g given) *model.Model {
	t.Helper()
	m := model.New()
	m.See(math.MinInt, client.Op{}, items(nil), items(g))
	m.Stop(math.MinInt)
	wantGiven(t, m, g)
	return m
}

// wantGiven holds what is given.
func wantGiven(t *testing.T, m *model.Model, g given) {
	t.Helper()
	want := map[uint32]block.Attr{}
	for k, a := range g {
		want[base+k] = a
	}
	if got := m.Given(); !maps.Equal(got, want) {
		t.Fatalf("given is %v; want %v", got, want)
	}
}

// addrs tells base and each of l together.
func addrs(l ...uint32) []uint32 {
	for k := range l {
		l[k] += base
	}
	return l
}

func told(l ...uint32) client.Result { return client.Result{L: addrs(l...)} }

func failed(e api.Errno, l ...uint32) client.Result { return client.Result{Code: e, L: addrs(l...)} }

var (
	auto    = client.Op{Kind: client.Auto, Node: "n1", Handle: "h1", N: 3}
	exact   = client.Op{Kind: client.Exact, Node: "n1", Handle: "h1", Addr: base + 1}
	freeOf  = client.Op{Kind: client.Free, Node: "n1", Handle: "h1", L: []uint32{base + 2, base + 1, base + 70}}
	byHand  = client.Op{Kind: client.FreeHandle, Node: "n2", Handle: "h1"}
	collect = client.Op{Kind: client.Collect, Node: "n1", Handle: "h1"}
)

// others tells what all others do that is asked, and what nobody does; each names all that it might free or give.
func others() []client.Op {
	var l []client.Op
	for _, kind := range []int{client.Look, client.Claim, client.Leave, client.AddPool, client.SetPool, client.DropPool, client.AddNode, client.DropNode, 0, -1, 14, math.MinInt, math.MaxInt} {
		l = append(l, client.Op{Kind: kind, Node: "n1", Handle: "h1", Addr: base + 1, L: []uint32{base + 1}, N: 9, Borrow: true, Open: true, Net: cidr.Net{Addr: base, Bits: 24}})
	}
	return l
}

// The example: freeing another address than one of those that are named.
func TestExample(t *testing.T) {
	m := of(t, given{1: n1h1, 3: n1h1})
	if m.See(0, freeOf, items(given{1: n1h1, 3: n1h1}), items(given{1: n1h1})) {
		t.Error("another address may be freed")
	}
	wantGiven(t, m, given{1: n1h1})
}

// See of each kind: what a step may change.
func TestSee(t *testing.T) {
	for _, x := range []struct {
		what          string
		o             client.Op
		before, after given
		may           bool
	}{
		{"one", auto, nil, given{1: n1h1}, true},
		{"more than are wanted", auto, given{9: n2h1}, given{9: n2h1, 1: n1h1, 2: n1h1, 70: n1h1, 71: n1h1}, true},
		{"for another node", auto, nil, given{1: n2h1}, false},
		{"under another handle", auto, nil, given{1: n1h2}, false},
		{"one of two under another handle", auto, nil, given{1: n1h2, 2: n1h1}, false},
		{"what is another one's", auto, given{1: n1h2}, given{1: n1h1}, false},
		{"what is another one's, and one", auto, given{1: n2h1}, given{1: n1h1, 2: n1h1}, false},
		{"what is its own becomes another one's", auto, given{1: n1h1}, given{1: n1h2}, false},
		{"freed", auto, given{1: n1h1}, nil, false},
		{"one for another", auto, given{1: n1h1}, given{2: n1h1}, false},
		{"just that", exact, given{3: n1h1}, given{1: n1h1, 3: n1h1}, true},
		{"another one", exact, nil, given{2: n1h1}, false},
		{"that, and another one", exact, nil, given{1: n1h1, 2: n1h1}, false},
		{"that, for another node", exact, nil, given{1: n2h1}, false},
		{"that, under another handle", exact, nil, given{1: n1h2}, false},
		{"that, which is another one's", exact, given{1: n1h2}, given{1: n1h1}, false},
		{"that, freed", exact, given{1: n1h1}, nil, false},
		{"all that are named", freeOf, given{1: n1h2, 2: n2h1, 70: n3h3, 3: n1h1}, given{3: n1h1}, true},
		{"one of those that are named", freeOf, given{1: n1h2, 2: n2h1}, given{1: n1h2}, true},
		{"one that is not named", freeOf, given{1: n1h1, 3: n1h1}, nil, false},
		{"given by one that frees", freeOf, nil, given{1: n1h1}, false},
		{"one that is named becomes another one's", freeOf, given{1: n1h1}, given{1: n1h2}, false},
		{"freed, and given", freeOf, given{1: n1h1}, given{2: n1h1}, false},
		{"all of a handle", byHand, given{1: n1h1, 70: n2h1, 2: n1h2}, given{2: n1h2}, true},
		{"some of a handle", byHand, given{1: n1h1, 70: n2h1}, given{1: n1h1}, true},
		{"of another handle", byHand, given{1: n1h1, 2: n1h2}, nil, false},
		{"what was a handle's is another one's", byHand, given{1: n1h1}, given{1: n1h2}, false},
		{"given by one that frees a handle", byHand, nil, given{1: n2h1}, false},
		{"for a node that is gone", collect, given{1: n3h3, 2: n1h1}, given{2: n1h1}, true},
		{"for a node that is there", collect, given{1: n3h3, 2: n1h1}, nil, false},
		{"for a node that never was there", collect, given{1: {Handle: "h1", Node: "n4"}}, nil, false},
		{"given by one that collects", collect, nil, given{1: n1h1}, false},
	} {
		m := of(t, x.before)
		if got := m.See(7, x.o, items(x.before), items(x.after)); got != x.may {
			t.Errorf("%d: %s: %v", x.o.Kind, x.what, got)
		}
		wantGiven(t, m, x.after)
		if m.See(7, x.o, items(x.before), items(x.after)) && !maps.Equal(x.before, x.after) {
			t.Errorf("%d: %s: once more", x.o.Kind, x.what)
		}
		if !m.See(7, x.o, items(x.after), items(x.after)) {
			t.Errorf("%d: %s: nothing changes, but that may not be", x.o.Kind, x.what)
		}
	}
}

// Which nodes are gone is told by the items ahead, not by those behind.
func TestGoneAhead(t *testing.T) {
	of3 := func(val string, g given) []kv.Item {
		l := items(g)
		l[2].Val = val
		return l
	}
	for _, x := range []struct {
		before, after string
		may           bool
	}{{"N\x01", "N\x01", true}, {"N\x01", "N\x00", true}, {"N\x00", "N\x01", false}, {"N\x00", "N\x00", false}} {
		m := of(t, given{1: n3h3})
		if got := m.See(0, collect, of3(x.before, given{1: n3h3}), of3(x.after, nil)); got != x.may {
			t.Errorf("%q, %q: %v", x.before, x.after, got)
		}
	}
}

// All others change nothing that is given.
func TestSeeOfOthers(t *testing.T) {
	for _, o := range others() {
		for _, x := range [][2]given{{nil, {1: n1h1}}, {{1: n1h1}, nil}, {{1: n3h3}, nil}, {{1: n1h1}, {1: n1h2}}, {{1: n1h2}, {1: n1h1}}} {
			m := of(t, x[0])
			if m.See(0, o, items(x[0]), items(x[1])) {
				t.Errorf("%d: %v may be %v", o.Kind, x[0], x[1])
			}
			wantGiven(t, m, x[1])
			if !m.See(0, o, items(x[1]), items(x[1])) {
				t.Errorf("%d: nothing changes, but that may not be", o.Kind)
			}
		}
	}
}

// What can't be viewed, or is not what is given, is refused, and changes nothing.
func TestSeeIsRefused(t *testing.T) {
	was := given{1: n1h1, 2: n1h1}
	right, next := items(was), items(given{1: n1h1, 2: n1h1, 3: n1h1})
	unread := append(slices.Clone(right), kv.Item{Key: "node/n4", Val: "N\x02", Rev: 9})
	twice := append(slices.Clone(right), kv.Item{Key: "node/n1", Val: "N\x00", Rev: 1})
	for _, x := range []struct {
		what          string
		before, after []kv.Item
	}{
		{"unread ahead", unread, next},
		{"unread behind", right, unread},
		{"twice ahead", twice, next},
		{"twice behind", right, twice},
		{"no key", right, []kv.Item{{}}},
		{"both unread", unread, unread},
		{"fewer are given", items(given{1: n1h1}), next},
		{"more are given", next, right},
		{"others are given", items(given{1: n1h1, 3: n1h1}), next},
		{"under another attribute", items(given{1: n1h1, 2: n2h1}), next},
		{"nothing is given", nil, next},
	} {
		m := model.New()
		if !m.See(0, auto, nil, right) {
			t.Fatal("two may not be given")
		}
		if m.See(0, auto, x.before, x.after) {
			t.Errorf("%s: it may be", x.what)
		}
		wantGiven(t, m, was)
		if !m.End(0, auto, told(2, 1)) {
			t.Errorf("%s: what was given is not known any more", x.what)
		}
	}
}

// Where nothing is given, what can't be viewed is still not taken as nothing.
func TestSeeOfNothingGiven(t *testing.T) {
	unread := []kv.Item{{Key: "node/n4", Val: "N\x02", Rev: 9}}
	for _, x := range [][2][]kv.Item{{unread, items(given{1: n1h1})}, {unread, nil}, {nil, unread}, {unread, unread}} {
		m := model.New()
		if m.See(0, auto, x[0], x[1]) {
			t.Errorf("%v may be %v", x[0], x[1])
		}
		wantGiven(t, m, nil)
	}
}

// did tells a model in which the client 5 gave gave, one by one, and freed freed.
func did(t *testing.T, gave, freed []uint32) *model.Model {
	t.Helper()
	m, free := model.New(), client.Op{Kind: client.FreeHandle, Handle: "h1"}
	for k, l := range [][]uint32{gave, freed} {
		for _, addr := range l {
			// The client 6 makes room, or gives what is to be freed, and is not asked about.
			with, without := items(given{addr: n1h1}), items(nil)
			if k == 0 && !(m.See(5, auto, without, with) && m.See(6, free, with, without)) {
				t.Fatal("it may not be given")
			}
			if k == 1 && !(m.See(6, auto, without, with) && m.See(5, free, with, without)) {
				t.Fatal("it may not be freed")
			}
		}
	}
	return m
}

func list(l ...uint32) []uint32 { return l }

// End of each kind: what a client may be told.
func TestEnd(t *testing.T) {
	most := func(n int) client.Op { return client.Op{Kind: client.Auto, Node: "n1", Handle: "h1", N: n} }
	for _, x := range []struct {
		what        string
		o           client.Op
		gave, freed []uint32
		r           client.Result
		may         bool
	}{
		{"all", auto, list(1, 2, 70), nil, told(70, 1, 2), true},
		{"as many as are wanted", most(1), list(1), nil, told(1), true},
		{"more than are wanted", most(2), list(1, 2, 3), nil, told(1, 2, 3), false},
		{"none is wanted", most(0), list(1), nil, told(1), false},
		{"fewer than none are wanted", most(math.MinInt), list(1), nil, told(1), false},
		{"one too few", auto, list(1, 2), nil, told(1), false},
		{"one too many", auto, list(1), nil, told(1, 2), false},
		{"another one", auto, list(1, 2), nil, told(1, 3), false},
		{"none", auto, list(1), nil, told(), false},
		{"none of none", auto, nil, nil, told(), false},
		{"none, of none that are wanted", most(0), nil, nil, told(), false},
		{"twice", auto, list(1, 2, 1), nil, told(2, 1, 1), true},
		{"twice, of which one is told", auto, list(1, 1), nil, told(1), false},
		{"once, but told twice", auto, list(1), nil, told(1, 1), false},
		{"another one twice", auto, list(1, 2, 1), nil, told(2, 2, 1), false},
		{"what it freed", auto, nil, list(1), told(1), false},
		{"an error", auto, nil, nil, failed(api.ErrFull), true},
		{"an error, of none that are wanted", most(-1), nil, nil, failed(api.ErrArg), true},
		{"an error, though it gave one", auto, list(1), nil, failed(api.ErrFull), false},
		{"an error, with one", auto, list(1), nil, failed(api.ErrTired, 1), false},
		{"an error, with one that it did not give", auto, nil, nil, failed(api.ErrTired, 1), false},
		{"an error that has no name", auto, nil, nil, failed(-1), true},
		{"the disk went away", auto, list(1), nil, failed(api.ErrLost), false},
		{"just that", exact, list(1), nil, told(1), true},
		{"just that, twice", exact, list(1, 1), nil, told(1, 1), true},
		{"none", exact, list(1), nil, told(), false},
		{"none of none", exact, nil, nil, told(), false},
		{"another one", exact, list(1), nil, told(2), false},
		{"an error", exact, nil, nil, failed(api.ErrTaken), true},
		{"an error, though it gave it", exact, list(1), nil, failed(api.ErrTaken), false},
		{"an error, with it", exact, list(1), nil, failed(api.ErrTaken, 1), false},
	} {
		m := did(t, x.gave, x.freed)
		if got := m.End(5, x.o, x.r); got != x.may {
			t.Errorf("%d: %s: %v", x.o.Kind, x.what, got)
		}
		// Behind that it did nothing.
		if m.End(5, x.o, x.r) != (x.r.Code != api.OK && len(x.r.L) == 0) {
			t.Errorf("%d: %s: once more", x.o.Kind, x.what)
		}
	}
}

// End of those who free.
func TestEndOfFreed(t *testing.T) {
	for _, o := range []client.Op{freeOf, byHand, collect, {Kind: client.Free}, {Kind: client.FreeHandle}, {Kind: client.Collect}} {
		for _, x := range []struct {
			what        string
			gave, freed []uint32
			r           client.Result
			may         bool
		}{
			{"all", nil, list(1, 2, 70, 3), told(70, 3, 1, 2), true},
			{"one too few", nil, list(1, 2), told(1), false},
			{"one too many", nil, list(1), told(1, 2), false},
			{"another one", nil, list(1, 2), told(1, 3), false},
			{"none", nil, list(1), told(), false},
			{"none of none", nil, nil, told(), true},
			{"twice", nil, list(1, 2, 1), told(2, 1, 1), true},
			{"once, but told twice", nil, list(1), told(1, 1), false},
			{"twice, of which one is told", nil, list(1, 1), told(1), false},
			{"what it gave", list(1), nil, told(1), false},
			{"an error", nil, nil, failed(api.ErrNone), true},
			{"an error, though it freed one", nil, list(1), failed(api.ErrTired), false},
			{"an error, with one", nil, list(1), failed(api.ErrTired, 1), false},
			{"an error, with one that it did not free", nil, nil, failed(api.ErrTired, 1), false},
		} {
			m := did(t, x.gave, x.freed)
			if got := m.End(5, o, x.r); got != x.may {
				t.Errorf("%d: %s: %v", o.Kind, x.what, got)
			}
			if m.End(5, o, x.r) != (len(x.r.L) == 0) {
				t.Errorf("%d: %s: once more", o.Kind, x.what)
			}
		}
	}
}

// All others are told no address, but Look any.
func TestEndOfOthers(t *testing.T) {
	for _, o := range others() {
		m := did(t, list(1), list(2))
		for _, e := range []api.Errno{api.OK, api.ErrArg, api.ErrTired, api.ErrLost, -1} {
			if !m.End(5, o, failed(e)) {
				t.Errorf("%d: %d, without addresses, may not be told", o.Kind, e)
			}
			if m.End(5, o, failed(e, 1)) != (o.Kind == client.Look) || m.End(5, o, failed(e, 1, 1, 2)) != (o.Kind == client.Look) {
				t.Errorf("%d: %d, with addresses", o.Kind, e)
			}
		}
	}
}

// What one client did is not another one's; End and Stop let only that one have done nothing.
func TestClientsAreApart(t *testing.T) {
	m := model.New()
	ids := []int{0, 1, -1, math.MinInt, math.MaxInt}
	var g = given{}
	for k, id := range ids {
		ahead := items(g)
		g[uint32(k)] = n1h1
		if !m.See(id, auto, ahead, items(g)) {
			t.Fatalf("%d may not give", id)
		}
	}
	m.Stop(7)
	m.Stop(ids[1])
	m.Stop(ids[1])
	for k, id := range ids {
		if k != 1 && (m.End(7, auto, told(uint32(k))) || !m.End(id, auto, told(uint32(k)))) {
			t.Errorf("%d may not be told what it gave", id)
		}
	}
	if m.End(ids[1], auto, told(1)) || !m.End(ids[1], auto, failed(api.ErrFull)) {
		t.Error("who was stopped gave something")
	}
	wantGiven(t, m, g)
	// Each may begin anew, and do something else then.
	without := maps.Clone(g)
	delete(without, 2)
	if !m.See(0, freeOf, items(g), items(without)) || !m.End(0, freeOf, told(2)) {
		t.Error("who ended may not begin anew")
	}
}

// What may not be is noted, too: the addresses that are given now and were not, or not under that attribute, and those that were, and are not.
func TestWhatMayNotBe(t *testing.T) {
	for _, x := range []struct {
		before, after given
		gave, freed   []uint32
	}{
		{nil, given{1: n2h1, 2: n1h1}, list(1, 2), nil},
		{given{1: n1h1, 2: n1h2}, given{2: n1h2}, nil, list(1)},
		{given{1: n1h1}, given{70: n1h1}, list(70), list(1)},
		{given{1: n1h2}, given{1: n1h1}, list(1), nil},
	} {
		for _, r := range [][]uint32{nil, list(1), list(2), list(1, 2), list(70), list(1, 70)} {
			m := of(t, x.before)
			if m.See(0, client.Op{Kind: client.Look}, items(x.before), items(x.after)) {
				t.Errorf("%v may be %v", x.before, x.after)
			}
			if got := m.End(0, auto, told(slices.Clone(r)...)); got != (slices.Equal(r, x.gave) && r != nil) {
				t.Errorf("behind %v, %v it may be told that it gave %v: %v", x.before, x.after, r, got)
			}
			m = of(t, x.before)
			m.See(0, client.Op{Kind: client.Look}, items(x.before), items(x.after))
			if got := m.End(0, byHand, told(slices.Clone(r)...)); got != slices.Equal(r, x.freed) {
				t.Errorf("behind %v, %v it may be told that it freed %v: %v", x.before, x.after, r, got)
			}
		}
	}
}

func TestNil(t *testing.T) {
	var m *model.Model
	if m.See(0, client.Op{}, nil, nil) || m.See(0, auto, nil, items(given{1: n1h1})) || m.End(0, auto, failed(api.ErrFull)) || m.End(0, client.Op{Kind: client.Look}, told()) || len(m.Given()) != 0 {
		t.Error("of none")
	}
	m.Stop(0)
}

// One that was made by hand is as a new one.
func TestMadeByHand(t *testing.T) {
	var m model.Model
	m.Stop(0)
	if len(m.Given()) != 0 || !m.See(0, auto, nil, items(given{1: n1h1})) || !m.See(1, byHand, items(given{1: n1h1}), nil) || !m.End(0, auto, told(1)) || !m.End(1, byHand, told(1)) {
		t.Error("made by hand")
	}
	var none model.Model
	if !none.End(0, auto, failed(api.ErrFull)) || none.End(0, auto, told(1)) {
		t.Error("made by hand, at its end")
	}
}

// What is handed in is neither kept nor changed, and what is told is written into by nobody else.
func TestListsAreApart(t *testing.T) {
	m := model.New()
	if m.Given()[base] != (block.Attr{}) {
		t.Error("something is given")
	}
	before, after := items(nil), items(given{1: n1h1, 70: n1h1})
	same := slices.Clone(after)
	m.See(0, auto, before, after)
	if !slices.Equal(after, same) {
		t.Errorf("the items are %v", after)
	}
	clear(after)
	g := m.Given()
	delete(g, base+1)
	g[base+9] = n2h1
	wantGiven(t, m, given{1: n1h1, 70: n1h1})
	r, o := told(70, 1), client.Op{Kind: client.Free, L: addrs(70, 3, 1)}
	if !m.End(0, auto, r) || !slices.Equal(r.L, addrs(70, 1)) {
		t.Errorf("told is %v", r)
	}
	if !m.See(0, o, same, items(nil)) || !slices.Equal(o.L, addrs(70, 3, 1)) {
		t.Errorf("what is asked is %v", o)
	}
}

// listed is what an end must be held against: all that a client did, in the order in which it did.
type listed struct{ gave, freed []uint32 }

// changes tells what is between two times, and whether one that does o may do that, address by address of so many.
func changes(o client.Op, before, after given, addresses uint32) (listed, bool) {
	var l listed
	may := true
	for k := range addresses {
		was, had := before[k]
		is, has := after[k]
		switch {
		case has && !had:
			l.gave = append(l.gave, base+k)
			own := is.Handle == o.Handle && is.Node == o.Node
			may = may && own && (o.Kind == 1 || o.Kind == 2 && o.Addr == base+k)
		case had && !has:
			l.freed = append(l.freed, base+k)
			may = may && (o.Kind == 3 && slices.Contains(o.L, base+k) || o.Kind == 4 && was.Handle == o.Handle || o.Kind == 13 && was.Node == "n3")
		case had && was != is:
			l.gave = append(l.gave, base+k)
			may = false
		}
	}
	return l, may
}

// sameBag tells whether both have the same addresses, as often.
func sameBag(a, b []uint32) bool {
	n := map[uint32]int{}
	for _, x := range a {
		n[x]++
	}
	for _, x := range b {
		n[x]--
	}
	for _, k := range n {
		if k != 0 {
			return false
		}
	}
	return true
}

// mayTell tells whether one that does o, and did what d has, may be told r.
func mayTell(o client.Op, d listed, r client.Result) bool {
	switch {
	case o.Kind == 5:
		return true
	case o.Kind < 1 || o.Kind > 4 && o.Kind != 13:
		return len(r.L) == 0
	}
	did := d.freed
	if o.Kind < 3 {
		did = d.gave
	}
	if r.Code != api.OK {
		return len(r.L)+len(did) == 0
	}
	if o.Kind < 3 && len(r.L) == 0 || o.Kind == 1 && len(r.L) > o.N {
		return false
	}
	return sameBag(r.L, did)
}

// anyOp tells anything that may be asked.
func anyOp(chance *rand.Rand) client.Op {
	o := client.Op{Kind: chance.Intn(16) - 1, Node: []string{"n1", "n2", "n3"}[chance.Intn(3)], Handle: []string{"h1", "h2"}[chance.Intn(2)], Addr: base + uint32(chance.Intn(5)), N: chance.Intn(6) - 1}
	if chance.Intn(2) == 0 {
		o.Kind = []int{1, 2, 3, 4, 13}[chance.Intn(5)]
	}
	for range chance.Intn(5) {
		o.L = append(o.L, base+uint32(chance.Intn(5)))
	}
	return o
}

// Whatever is seen, and told, the model tells what one tells that goes through all addresses, one by one.
func TestWhateverIsSeen(t *testing.T) {
	chance := rand.New(rand.NewSource(32))
	attrs := []block.Attr{n1h1, n1h2, n2h1, n3h3, {Handle: "h1", Node: "n3"}}
	may, ends := map[bool]int{}, map[bool]int{}
	for range 300 {
		m, now, deeds, asked := model.New(), given{}, map[int]listed{}, map[int]client.Op{}
		for range 120 {
			id := chance.Intn(3)
			if _, busy := asked[id]; !busy {
				asked[id] = anyOp(chance)
			}
			o := asked[id]
			if chance.Intn(6) == 0 {
				r := client.Result{Code: api.Errno(chance.Intn(3) / 2), L: slices.Concat(deeds[id].gave, deeds[id].freed)}
				if chance.Intn(4) == 0 {
					r.L = append(r.L, base+uint32(chance.Intn(5)))
				}
				got, want := m.End(id, o, r), mayTell(o, deeds[id], r)
				if got != want {
					t.Fatalf("%d, that did %+v, may be told %+v of %+v: %v", id, deeds[id], r, o, got)
				}
				ends[want]++
				delete(deeds, id)
				delete(asked, id)
				continue
			}
			next := maps.Clone(now)
			for range chance.Intn(3) {
				if k := uint32(chance.Intn(5)); chance.Intn(3) == 0 {
					delete(next, k)
				} else {
					next[k] = attrs[chance.Intn(len(attrs))]
				}
			}
			l, want := changes(o, now, next, 5)
			if got := m.See(id, o, items(now), items(next)); got != want {
				t.Fatalf("%+v: %v may be %v: %v", o, now, next, got)
			}
			may[want]++
			d := deeds[id]
			deeds[id] = listed{append(d.gave, l.gave...), append(d.freed, l.freed...)}
			now = next
			wantGiven(t, m, now)
		}
	}
	if min(may[true], may[false], ends[true], ends[false]) < 500 {
		t.Errorf("too little was tried: %v, %v", may, ends)
	}
}

// anyAsked tells what clients of a schedule ask, most of them addresses.
func anyAsked(chance *rand.Rand) client.Op {
	o := client.Op{Kind: 1 + chance.Intn(13), Node: []string{"n1", "n2", "n3"}[chance.Intn(3)], Handle: []string{"h1", "h2", "h3"}[chance.Intn(3)], Addr: base + uint32(chance.Intn(192)), N: 1 + chance.Intn(90), Borrow: chance.Intn(2) == 0, Open: chance.Intn(8) > 0}
	if chance.Intn(2) == 0 {
		o.Kind = 1 + chance.Intn(4)
	}
	o.Net = []cidr.Net{{Addr: base, Bits: 25}, {Addr: base + 128, Bits: 26}}[chance.Intn(2)]
	for range chance.Intn(40) {
		o.L = append(o.L, base+uint32(chance.Intn(192)))
	}
	return o
}

// watch is a schedule, and a model that sees all that it does.
type watch struct {
	*testing.T
	s      *sched.Sched
	m      *model.Model
	asked  map[int]client.Op // by places
	past   int               // how many of those that are past were held
	lost   *kv.Op            // what was asked when the disk went away
	loser  int               // by whom
	counts map[string]int
}

// step lets place k go on, and holds that it may, and, if it ended, that it may be told what it is.
func (w *watch) step(k int) {
	w.Helper()
	ahead, dead := w.s.Items(), w.s.Lost()
	o, asks := w.s.Asks(k)
	if w.s.Do(sched.Event{Kind: sched.Step, Client: k}) == 0 || !asks {
		w.Fatalf("%d makes no step", k)
	}
	if w.s.Lost() && !dead {
		w.lost, w.loser = &o, k
	}
	behind := w.s.Items()
	if !w.m.See(k, w.asked[k], ahead, behind) {
		w.Fatalf("%+v may not do %+v", w.asked[k], o)
	}
	w.counts["steps"]++
	w.settle()
}

// settle holds what was told to those that are past since then.
func (w *watch) settle() {
	w.Helper()
	l := w.s.Past()
	for _, p := range l[w.past:] {
		switch {
		case p.Ended:
			if !w.m.End(p.Client, p.Op, p.Result) {
				w.Fatalf("%+v may not be told %+v", p.Op, p.Result)
			}
			w.counts["ends"]++
			w.counts["told"] += len(p.Result.L)
		// What the one that was lost has done is told behind the crash.
		case w.lost == nil || p.Client != w.loser:
			w.m.Stop(p.Client)
		}
	}
	w.past = len(l)
}

// crash lets the disk crash: what was lost may have been a step, too.
func (w *watch) crash(keep []uint16) {
	w.Helper()
	ahead := w.s.Items()
	w.s.Do(sched.Event{Kind: sched.Crash, Keep: keep})
	behind := w.s.Items()
	if w.lost == nil {
		if !slices.Equal(ahead, behind) {
			w.Fatal("a crash of a disk that is there changes something")
		}
		return
	}
	if !slices.Equal(ahead, behind) {
		w.counts["more"]++
	}
	given := len(w.m.Given())
	if !w.m.See(w.loser, w.asked[w.loser], ahead, behind) {
		w.Fatalf("%+v may not have done %+v", w.asked[w.loser], *w.lost)
	}
	if len(w.m.Given()) != given {
		w.counts["more given"]++
	}
	w.m.Stop(w.loser)
	w.lost = nil
	w.settle()
}

// keep tells how much of each file a crash leaves: any of it, or all of the log.
func (w *watch) keep(chance *rand.Rand) []uint16 {
	n := chance.Intn(400)
	if w.lost != nil && chance.Intn(2) == 0 {
		state, _ := kv.Of(w.s.Rev(), w.s.Items())
		_, effect, _ := state.Plan(*w.lost)
		b, _ := redo.Put(effect)
		b, _ = frame.Put(b)
		n = len(b)
	}
	return []uint16{uint16(n), 0, uint16(chance.Intn(9))}
}

// goOn lets something happen.
func (w *watch) goOn(chance *rand.Rand, places int) {
	w.Helper()
	k := chance.Intn(places)
	active := slices.Contains(w.s.Active(), k)
	switch n := chance.Intn(300); {
	case w.lost != nil && n%4 == 0 || n == 0:
		w.crash(w.keep(chance))
	case n < 4:
		w.s.Do(sched.Event{Kind: sched.Arm, N: chance.Intn(60)})
	case active && n < 6:
		w.s.Do(sched.Event{Kind: sched.Stop, Client: k})
		w.settle()
	case active:
		w.step(k)
	// Who was lost has its number till the crash: nobody else may have it.
	case n < 60 && (w.lost == nil || k != w.loser):
		w.asked[k] = anyAsked(chance)
		w.s.Do(sched.Event{Kind: sched.Begin, Client: k, Op: w.asked[k]})
		w.settle()
	}
}

// Of any schedule each step may be, and who ended may be told what it is; behind a crash what was lost may have been a step, too.
func TestAnySchedule(t *testing.T) {
	chance := rand.New(rand.NewSource(33))
	counts := map[string]int{}
	for range 60 {
		places := 1 + chance.Intn(6)
		w := &watch{T: t, s: sched.New(places, 1+chance.Intn(30)), m: model.New(), asked: map[int]client.Op{}, counts: counts}
		for _, o := range []client.Op{{Kind: client.AddPool, Net: cidr.Net{Addr: base, Bits: 25}}, {Kind: client.AddNode, Node: "n1"}, {Kind: client.AddNode, Node: "n2"}, {Kind: client.AddNode, Node: "n3"}} {
			w.asked[0] = o
			w.s.Do(sched.Event{Kind: sched.Begin, Op: o})
			for len(w.s.Active()) > 0 {
				w.step(0)
			}
		}
		for range 1200 {
			w.goOn(chance, places)
		}
		v, e := view.Of(w.s.Items())
		if got := w.m.Given(); e != api.OK || !maps.Equal(got, v.Given()) {
			t.Fatalf("given is %v; want %v", got, v.Given())
		}
	}
	if counts["steps"] < 10000 || counts["ends"] < 1000 || counts["told"] < 5000 || counts["more"] < 50 || counts["more given"] < 10 {
		t.Errorf("too little was tried: %v", counts)
	}
}
