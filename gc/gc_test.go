package gc_test

import (
	"fmt"
	"maps"
	"math"
	"math/rand"
	"slices"
	"testing"

	"virgate/api"
	"virgate/block"
	"virgate/gc"
	"virgate/handle"
	"virgate/image"
	"virgate/kv"
	"virgate/mach"
	"virgate/names"
	"virgate/recs"
	"virgate/view"
)

// base is the first address of the first one of most blocks.
const base = 10 << 24

// nets are those of the blocks, by their addresses, as they stand in keys; by their bytes these go another way.
var nets = []string{"10.0.0.0-26", "10.0.0.64-26", "10.0.0.128-26", "10.0.0.192-26"}

// Records, as bytes written by hand.
const (
	present   = "N\x00"
	gone      = "N\x01"
	pending   = "A\x01"
	confirmed = "A\x02"
	leaving   = "A\x03"
)

// at tells addresses from base on.
func at(l ...uint32) []uint32 {
	var all []uint32
	for _, k := range l {
		all = append(all, base+k)
	}
	return all
}

// is is one address that is given: the how many-th of its block, under which handle, for which node.
type is struct {
	k            uint32
	handle, node string
}

// blockOf tells the bytes of the k-th block, that is aff's, and of which these are given; of two that are the same address, the first one.
func blockOf(k int, aff string, l ...is) string {
	b, _ := block.New(base+64*uint32(k), aff)
	for _, x := range l {
		if more, e := block.AssignAt(b, b.Addr+x.k, block.Attr{Handle: x.handle, Node: x.node}); e == api.OK {
			b = more
		}
	}
	return put(b)
}

func put(b block.Block) string {
	val, e := image.Put(b)
	if e != api.OK {
		panic("a block that is not right")
	}
	return val
}

// counted tells the bytes of a handle that has so many in each of the first blocks.
func counted(l ...int) string {
	h := handle.Handle{}
	for k, n := range l {
		h, _ = handle.Set(h, base+64*uint32(k), n)
	}
	return bytesOf(h)
}

func bytesOf(h handle.Handle) string {
	val, e := handle.Put(h)
	if e != api.OK {
		panic("a handle that is not right")
	}
	return val
}

// stateOf tells a state of these items, by their keys: key, value, and so on.
func stateOf(l ...string) *kv.State {
	m := map[string]string{}
	for k := 0; k < len(l); k += 2 {
		m[l[k]] = l[k+1]
	}
	s := kv.New()
	for _, key := range slices.Sorted(maps.Keys(m)) {
		create(s, key, m[key])
	}
	return s
}

func create(s *kv.State, key, val string) { s.Do(kv.Op{Kind: kv.Create, Key: key, Val: val}) }

func get(key string) kv.Op { return kv.Op{Kind: kv.Get, Key: key} }

// set lets key have val, whatever it had; what has - is not there.
func set(s *kv.State, key, val string) {
	s.Do(kv.Op{Kind: kv.Delete, Key: key, Rev: s.Do(get(key)).Rev})
	if val != "-" {
		create(s, key, val)
	}
}

// ending is what somebody ended with.
type ending struct {
	l []uint32
	e api.Errno
}

func (x ending) is(y ending) bool { return x.e == y.e && slices.Equal(x.l, y.l) }

func freed(l ...uint32) ending { return ending{at(l...), api.OK} }

func failed(e api.Errno) ending { return ending{nil, e} }

// run collects by what do tells, and tells how that ended, and what was asked.
func run(t *testing.T, do func(o kv.Op) kv.Result) (ending, []kv.Op) {
	t.Helper()
	var ends []ending
	var asked []kv.Op
	p := mach.New()
	gc.Go(p, func(l []uint32, e api.Errno) { ends = append(ends, ending{l, e}) })
	done := mach.Run(p, func(o kv.Op) kv.Result {
		if len(ends) != 0 {
			t.Errorf("ended %v, and asks %#v", ends, o)
		}
		asked = append(asked, o)
		return do(o)
	}, 999999)
	if !done || len(ends) != 1 {
		t.Fatalf("ended %v, %v", done, ends)
	}
	return ends[0], asked
}

// spelt tells what was asked, as text.
func spelt(l []kv.Op) []string {
	var said []string
	for _, o := range l {
		said = append(said, []string{"", "get ", "list ", "create ", "update ", "delete "}[o.Kind]+o.Key)
	}
	return said
}

// asks is what is asked between two Lists.
type asks []string

// wantEnd holds how collecting ends, and what is asked: behind the List of nodes, those of affinities, blocks, blocks, blocks and handles each with what is asked behind it.
func wantEnd(t *testing.T, what string, do func(o kv.Op) kv.Result, want ending, leaves, drops, deletes, hands asks) {
	t.Helper()
	got, asked := run(t, do)
	if !got.is(want) {
		t.Errorf("%s: ended with %v; want %v", what, got, want)
	}
	l := slices.Concat(asks{"list node/", "list aff/"}, leaves, asks{"list block/"}, drops, asks{"list block/"}, deletes, asks{"list block/", "list handle/"}, hands)
	if !slices.Equal(spelt(asked), l) {
		t.Errorf("%s: asked %q; want %q", what, spelt(asked), l)
	}
}

// wantLeft holds what a state has: key, value, and so on, by the keys.
func wantLeft(t *testing.T, what string, s *kv.State, want ...string) {
	t.Helper()
	var l []string
	for _, it := range s.All() {
		l = append(l, it.Key, it.Val)
	}
	if !slices.Equal(l, want) {
		t.Errorf("%s: left %q; want %q", what, l, want)
	}
}

// leaves tells what is asked where a node leaves the k-th block, that is its own; by of what is done to the block.
func leaves(node string, k int, by string) asks {
	aff, blk := "aff/"+node+"/"+nets[k], "block/"+nets[k]
	return asks{"get " + aff, "update " + aff, "get " + blk, "get " + aff, by + " " + blk, "delete " + aff}
}

// drops tells what is asked where addresses of the k-th block are freed, each of whose handles is then done something with: name, what, and so on.
func drops(k int, by ...string) asks {
	l := asks{"get block/" + nets[k], "update block/" + nets[k]}
	for ; len(by) > 1; by = by[2:] {
		l = append(l, "get handle/"+by[0], by[1]+" handle/"+by[0])
	}
	return l
}

// The example: a node that is gone, with a block of its own, and two addresses there.
func TestExample(t *testing.T) {
	s := stateOf("node/n1", gone, "aff/n1/"+nets[0], confirmed, "block/"+nets[0], blockOf(0, "n1", is{0, "h1", "n1"}, is{1, "h1", "n1"}), "handle/h1", counted(2))
	blk := "block/" + nets[0]
	wantEnd(t, "a node that is gone", s.Do, freed(0, 1), leaves("n1", 0, "update"), asks{"get " + blk, "update " + blk, "delete " + blk, "get handle/h1", "delete handle/h1"}, nil, nil)
	wantLeft(t, "a node that is gone", s, "node/n1", gone)
	rev := s.Rev()
	wantEnd(t, "once more", s.Do, freed(), nil, nil, nil, nil)
	if s.Rev() != rev {
		t.Errorf("with nothing left over it writes: %#v", s.All())
	}
	wantEnd(t, "nothing at all", kv.New().Do, freed(), nil, nil, nil, nil)
}

// Affinities that are not Confirmed go, and those of nodes that are gone; whoever is not known is not gone.
func TestAffinities(t *testing.T) {
	for _, x := range []struct {
		node, val string
		goes      bool
	}{
		{"", confirmed, false}, {present, confirmed, false}, {gone, confirmed, true},
		{"", pending, true}, {present, pending, true}, {gone, pending, true},
		{"", leaving, true}, {present, leaving, true}, {gone, leaving, true},
		// What says nothing of a node says not that it is gone.
		{"N", confirmed, false}, {"N\x02", confirmed, false}, {"N\x01x", confirmed, false},
	} {
		s := stateOf("aff/n1/"+nets[0], x.val, "block/"+nets[0], blockOf(0, "n1"))
		if x.node != "" {
			create(s, "node/n1", x.node)
		}
		what := fmt.Sprintf("a node %q, an affinity %q", x.node, x.val)
		if !x.goes {
			rev := s.Rev()
			wantEnd(t, what, s.Do, freed(), nil, nil, nil, nil)
			if s.Rev() != rev {
				t.Errorf("%s: left %#v", what, s.All())
			}
			continue
		}
		l := leaves("n1", 0, "delete")
		if x.val == leaving {
			l = slices.Delete(l, 1, 2)
		}
		wantEnd(t, what, s.Do, freed(), l, nil, nil, nil)
		if slices.ContainsFunc(s.All(), func(it kv.Item) bool { return it.Key != "node/n1" }) {
			t.Errorf("%s: left %#v", what, s.All())
		}
	}
}

// An affinity goes by the node and the block of its key; in the order of the List, whatever some end with.
func TestAffinitiesInOrder(t *testing.T) {
	s := stateOf("node/n2", gone, "node/n1", present,
		"aff/n1/"+nets[1], pending, "block/"+nets[1], blockOf(1, "n2", is{7, "h1", "n1"}),
		"aff/n2/"+nets[1], confirmed, "aff/n2/"+nets[2], leaving, "block/"+nets[2], "B",
		"aff/n2/"+nets[3], confirmed, "block/"+nets[3], blockOf(3, "n3"), "aff/n3/"+nets[3], confirmed,
		"aff/n3/"+nets[0], confirmed, "aff/n1/"+nets[0], confirmed, "block/"+nets[0], blockOf(0, "n1"),
		"handle/h1", counted(0, 1))
	wantEnd(t, "in order", s.Do, freed(), slices.Concat(
		slices.Delete(leaves("n1", 1, ""), 4, 5),
		// What can't be read is left as it is.
		asks{"get aff/n2/" + nets[2], "get block/" + nets[2], "get aff/n2/" + nets[2]},
		slices.Delete(leaves("n2", 3, ""), 4, 5),
		leaves("n2", 1, "update"),
	), nil, nil, nil)
	wantLeft(t, "in order", s,
		"aff/n1/"+nets[0], confirmed, "aff/n2/"+nets[2], leaving, "aff/n3/"+nets[0], confirmed, "aff/n3/"+nets[3], confirmed,
		"block/"+nets[0], blockOf(0, "n1"), "block/"+nets[2], "B", "block/"+nets[3], blockOf(3, "n3"), "block/"+nets[1], blockOf(1, "", is{7, "h1", "n1"}),
		"handle/h1", counted(0, 1), "node/n1", present, "node/n2", gone)
}

// Of each block all that is given for nodes that are gone is freed, node by node; what is given for others stays.
func TestAddresses(t *testing.T) {
	mixed := []is{{0, "h1", "n2"}, {1, "h2", "n3"}, {2, "h1", "n1"}, {3, "h2", "n2"}, {4, "h1", "n3"}, {5, "h1", "n9"}, {40, "h1", "n2"}}
	s := stateOf("node/n1", present, "node/n2", gone, "node/n3", gone,
		"block/"+nets[0], blockOf(0, "", is{9, "h1", "n1"}),
		"block/"+nets[1], blockOf(1, "", is{3, "h3", "n3"}),
		"block/"+nets[2], blockOf(2, "n1", mixed...), "aff/n1/"+nets[2], confirmed,
		"block/"+nets[3], blockOf(3, "n1", is{1, "h3", "n2"}, is{0, "h3", "n2"}), "aff/n1/"+nets[3], confirmed,
		"handle/h1", counted(1, 0, 5, 0), "handle/h2", counted(0, 0, 2), "handle/h3", counted(0, 1, 0, 2))
	wantEnd(t, "of three blocks", s.Do, freed(128+0, 128+3, 128+40, 128+1, 128+4, 192+0, 192+1, 64+3), nil, slices.Concat(
		drops(2, "h1", "update", "h2", "delete"),
		drops(3, "h3", "update"),
		asks{"get block/" + nets[1], "update block/" + nets[1], "delete block/" + nets[1], "get handle/h3", "delete handle/h3"},
	), nil, nil)
	v, e := view.Of(s.All())
	want := map[uint32]block.Attr{base + 9: {Handle: "h1", Node: "n1"}, base + 128 + 2: {Handle: "h1", Node: "n1"}, base + 128 + 5: {Handle: "h1", Node: "n9"}}
	if e != api.OK || !maps.Equal(v.Given(), want) || len(v.Blocks) != 3 || len(v.Handles) != 1 || bytesOf(v.Handles["h1"]) != counted(1, 0, 2) {
		t.Errorf("of three blocks: left %#v", s.All())
	}
}

// Names that begin alike are others.
func TestOtherNodes(t *testing.T) {
	var l []is
	for k, node := range []string{"n", "n1", "n11", "N1", "n1"} {
		l = append(l, is{uint32(k), "h", node})
	}
	s := stateOf("block/"+nets[0], blockOf(0, "", l...), "handle/h", counted(5), "node/n1", gone, "node/n11", present)
	wantEnd(t, "n1 alone", s.Do, freed(1, 4), nil, drops(0, "h", "update"), nil, nil)
}

// A block goes that is nobody's, and of which nothing is given; by the revision that the List told.
func TestBlocks(t *testing.T) {
	s := stateOf("block/"+nets[0], blockOf(0, ""), "block/"+nets[1], blockOf(1, "", is{0, "h1", "n1"}), "block/"+nets[2], blockOf(2, "n1"), "block/"+nets[3], blockOf(3, ""),
		"block/10.0.1.0-26", "B", "block/10.0.1.0-27", blockOf(4, ""), "block/", blockOf(0, ""), "handle/h1", counted(0, 1))
	items := itemsOf(s)
	_, asked := run(t, s.Do)
	for _, o := range asked {
		if o.Kind == kv.Delete && o != (kv.Op{Kind: kv.Delete, Key: o.Key, Rev: items[o.Key].Rev}) {
			t.Errorf("asked %#v of %#v", o, items[o.Key])
		}
	}
	if want := (asks{"list node/", "list aff/", "list block/", "list block/", "delete block/" + nets[0], "delete block/" + nets[3], "list block/", "list handle/"}); !slices.Equal(spelt(asked), want) {
		t.Errorf("asked %q; want %q", spelt(asked), want)
	}
	// Others may have changed it since: then it stays.
	s = stateOf("block/"+nets[0], blockOf(0, ""))
	wantEnd(t, "changed since", behind(s, "list block/", 2, func() { set(s, "block/"+nets[0], blockOf(0, "n1")) }), freed(), nil, nil, asks{"delete block/" + nets[0]}, nil)
	wantLeft(t, "changed since", s, "block/"+nets[0], blockOf(0, "n1"))
}

func itemsOf(s *kv.State) map[string]kv.Item {
	m := map[string]kv.Item{}
	for _, it := range s.All() {
		m[it.Key] = it
	}
	return m
}

// behind does what s does, and behind what is asked for the n-th time does other.
func behind(s *kv.State, asked string, n int, other func()) func(o kv.Op) kv.Result {
	return func(o kv.Op) kv.Result {
		r := s.Do(o)
		if spelt([]kv.Op{o})[0] == asked {
			if n--; n == 0 {
				other()
			}
		}
		return r
	}
}

// Each handle gets just what blocks say, whoever these are of, and is gone, if that is nothing.
func TestHandles(t *testing.T) {
	blocks := []string{
		"block/" + nets[0], blockOf(0, "", is{0, "h1", "n1"}, is{1, "h1", "n2"}, is{2, "h2", "n1"}),
		"block/" + nets[1], blockOf(1, "n1", is{0, "h1", "n1"}, is{1, "h1", "n1"}, is{5, "h4", "n1"}),
		"block/" + nets[2], "B",
		"block/10.0.0.0-27", blockOf(0, "", is{63, "h2", "n1"}),
	}
	h1, h2, h4 := counted(2, 2), counted(1), counted(0, 1)
	for _, x := range []struct {
		what  string
		hands map[string]string
		asked asks
	}{
		{"all is right", map[string]string{"h1": h1, "h2": h2, "h4": h4}, nil},
		{"none is there", nil, asks{"create handle/h1", "create handle/h2", "create handle/h4"}},
		{"too few", map[string]string{"h1": counted(2), "h2": h2, "h4": counted(0)}, asks{"update handle/h1", "update handle/h4"}},
		{"too many", map[string]string{"h1": counted(2, 3), "h2": counted(1, 0, 1), "h4": counted(1, 1)}, asks{"update handle/h1", "update handle/h2", "update handle/h4"}},
		{"other blocks", map[string]string{"h1": counted(0, 2, 2), "h2": counted(0, 1), "h4": h4}, asks{"update handle/h1", "update handle/h2"}},
		{"others that have nothing", map[string]string{"h1": h1, "h2": h2, "h3": counted(1), "h4": h4, "H1": counted(0, 0, 9), "h": counted()}, asks{"delete handle/H1", "delete handle/h", "delete handle/h3"}},
		{"some of all", map[string]string{"h2": counted(7), "h3": h1, "h4": h4}, asks{"update handle/h2", "delete handle/h3", "create handle/h1"}},
		{"what says nothing", map[string]string{"h1": "", "h2": "H", "h3": "B", "h4": counted(0, 1) + "x"}, nil},
		{"keys that are none", map[string]string{"h1": h1, "h2": h2, "h4": h4, "h/1": h1, "": h1, "h\x00": counted(3)}, nil},
	} {
		s := stateOf(blocks...)
		for _, id := range slices.Sorted(maps.Keys(x.hands)) {
			create(s, "handle/"+id, x.hands[id])
		}
		items := itemsOf(s)
		wantEnd(t, x.what, func(o kv.Op) kv.Result {
			if o.Kind != kv.List && o.Rev != items[o.Key].Rev || o.If != "" || o.IfRev != 0 {
				t.Errorf("%s: asked %#v of %#v", x.what, o, items[o.Key])
			}
			return s.Do(o)
		}, freed(), nil, nil, nil, x.asked)
		if len(x.asked) == 0 {
			continue
		}
		wantLeft(t, x.what, s, append([]string{"block/" + nets[0], blocks[1], "block/10.0.0.0-27", blocks[7], "block/" + nets[2], "B", "block/" + nets[1], blocks[3]}, "handle/h1", h1, "handle/h2", h2, "handle/h4", h4)...)
	}
}

// Others may have changed a handle since: then it stays, and all that comes behind it is done.
func TestHandlesChangedSince(t *testing.T) {
	s := stateOf("block/"+nets[0], blockOf(0, "", is{0, "h1", "n1"}, is{1, "h2", "n1"}, is{2, "h3", "n1"}), "handle/h0", counted(4), "handle/h1", counted(5), "handle/h2", counted(6))
	changed := func() {
		set(s, "handle/h0", counted(7))
		set(s, "handle/h1", counted(8))
		create(s, "handle/h3", counted(9))
	}
	wantEnd(t, "changed since", behind(s, "list handle/", 1, changed), freed(), nil, nil, nil, asks{"delete handle/h0", "update handle/h1", "update handle/h2", "create handle/h3"})
	wantLeft(t, "changed since", s, "block/"+nets[0], s.All()[0].Val, "handle/h0", counted(7), "handle/h1", counted(8), "handle/h2", counted(1), "handle/h3", counted(9))
}

// Those are gone that were so at the first List; what is done behind that goes by what the later Lists tell.
func TestOthersMeanwhile(t *testing.T) {
	s := stateOf("node/n1", present, "node/n2", gone, "aff/n1/"+nets[0], confirmed, "block/"+nets[0], blockOf(0, "n1", is{0, "h1", "n1"}), "handle/h1", counted(1))
	wantEnd(t, "gone since", behind(s, "list node/", 1, func() { set(s, "node/n1", gone) }), freed(), nil, nil, nil, nil)
	wantEnd(t, "gone ahead", s.Do, freed(0), leaves("n1", 0, "update"), asks{"get block/" + nets[0], "update block/" + nets[0], "delete block/" + nets[0], "get handle/h1", "delete handle/h1"}, nil, nil)
	// An affinity that comes, a block that comes.
	s = stateOf("node/n2", gone)
	comes := behind(s, "list node/", 1, func() {
		create(s, "aff/n1/"+nets[0], pending)
		create(s, "block/"+nets[0], blockOf(0, "n1"))
	})
	wantEnd(t, "an affinity since", comes, freed(), leaves("n1", 0, "delete"), nil, nil, nil)
	comes = behind(s, "list aff/", 1, func() { create(s, "block/"+nets[1], blockOf(1, "", is{3, "h1", "n2"}, is{4, "h1", "n1"})) })
	wantEnd(t, "a block since", comes, freed(67), nil, asks{"get block/" + nets[1], "update block/" + nets[1], "get handle/h1"}, nil, asks{"create handle/h1"})
	comes = behind(s, "list block/", 1, func() { create(s, "block/"+nets[2], blockOf(2, "")) })
	wantEnd(t, "an empty block since", comes, freed(), nil, nil, asks{"delete block/" + nets[2]}, nil)
	comes = behind(s, "list block/", 2, func() { create(s, "block/"+nets[3], blockOf(3, "", is{1, "h2", "n1"})) })
	wantEnd(t, "a handle since", comes, freed(), nil, nil, nil, asks{"create handle/h2"})
	// What a block has when it is dropped, not when it was listed.
	s = stateOf("node/n2", gone, "block/"+nets[0], blockOf(0, "n1", is{0, "h1", "n2"}), "aff/n1/"+nets[0], confirmed, "handle/h1", counted(2))
	comes = behind(s, "list block/", 1, func() { set(s, "block/"+nets[0], blockOf(0, "n1", is{5, "h1", "n1"}, is{6, "h1", "n2"})) })
	wantEnd(t, "given since", comes, freed(6), nil, drops(0, "h1", "update"), nil, nil)
	wantEnd(t, "behind that", s.Do, freed(), nil, nil, nil, nil)
}

// What says nothing is passed over, and left as it is.
func TestSaysNothing(t *testing.T) {
	blk := blockOf(0, "", is{3, "h1", "n1"})
	l := []string{"node/n1", gone, "handle/h1", ""}
	for k, val := range []string{"", "A", "A\x00", "A\x04", "A\x01x", "N\x01", blk} {
		l = append(l, "aff/n1/"+netOf(k), val)
	}
	for _, key := range []string{"aff/", "aff/n1", "aff/n1/", "aff/n1/10.0.0.0", "aff/n1/10.0.0.0-27", "aff/n1/10.0.0.1-26", "aff/n1/n1/10.0.0.0-26", "aff//10.0.0.0-26", "aff/n 1/10.0.0.0-26"} {
		l = append(l, key, pending)
	}
	for k, val := range []string{"", "B", "H\x00\x00", blk + "x", blk[1:], confirmed} {
		l = append(l, "block/"+netOf(k), val)
	}
	for _, key := range []string{"block/", "block/10.0.0.0", "block/10.0.0.0-27", "block/10.0.0.1-26", "block/n1/10.0.0.0-26"} {
		l = append(l, key, blk)
	}
	s := stateOf(l...)
	rev := s.Rev()
	wantEnd(t, "all that says nothing", s.Do, freed(), nil, nil, nil, nil)
	if s.Rev() != rev {
		t.Errorf("it writes: %#v", s.All())
	}
}

// netOf tells the net of the k-th block, as it stands in keys.
func netOf(k int) string { return fmt.Sprintf("10.0.%d.%d-26", k/4, k%4*64) }

// Nothing that is refused ends it: what is listed is nothing then, what is written counts as done.
func TestRefused(t *testing.T) {
	fresh := func() *kv.State {
		return stateOf("node/n1", gone, "aff/n1/"+nets[0], confirmed, "aff/n2/"+nets[1], leaving, "block/"+nets[0], blockOf(0, "n1", is{0, "h1", "n1"}), "block/"+nets[1], blockOf(1, ""), "handle/h2", counted(1))
	}
	refusing := func(s *kv.State, e api.Errno, is func(o kv.Op) bool) func(o kv.Op) kv.Result {
		return func(o kv.Op) kv.Result {
			r := s.Do(o)
			if is(o) {
				// What else is told does not count.
				r.Code = e
			}
			return r
		}
	}
	for _, e := range []api.Errno{api.ErrStale, api.ErrNil, api.ErrThere, -1, 14} {
		wantEnd(t, "no List", refusing(fresh(), e, func(o kv.Op) bool { return o.Kind == kv.List }), freed(), nil, nil, nil, nil)
		s := fresh()
		wantEnd(t, "no nodes", refusing(s, e, func(o kv.Op) bool { return o.Key == names.Nodes }), freed(), asks{"get aff/n2/" + nets[1], "get block/" + nets[1], "get aff/n2/" + nets[1], "delete aff/n2/" + nets[1]},
			nil, asks{"delete block/" + nets[1]}, asks{"delete handle/h2", "create handle/h1"})
		wantLeft(t, "no nodes", s, "aff/n1/"+nets[0], confirmed, "block/"+nets[0], blockOf(0, "n1", is{0, "h1", "n1"}), "handle/h1", counted(1), "node/n1", gone)
		s = fresh()
		key := "aff/n1/" + nets[0]
		tired := slices.Repeat(asks{"get " + key, "update " + key}, api.Retries)
		other := asks{"get aff/n2/" + nets[1], "get block/" + nets[1], "get aff/n2/" + nets[1], "delete aff/n2/" + nets[1]}
		drop := slices.Repeat(drops(0), api.Retries)
		wantEnd(t, "no writes", unwritten(s, e), freed(), slices.Concat(tired, other), drop, asks{"delete block/" + nets[1]}, asks{"delete handle/h2", "create handle/h1"})
		if s.Rev() != 6 {
			t.Errorf("it writes: %#v", s.All())
		}
	}
}

// unwritten tells what s tells, but of writes e, and does none.
func unwritten(s *kv.State, e api.Errno) func(o kv.Op) kv.Result {
	return func(o kv.Op) kv.Result {
		if o.Kind == kv.Get || o.Kind == kv.List {
			return s.Do(o)
		}
		return kv.Result{Code: e}
	}
}

// Wherever the disk goes away: the end, with none.
func TestLost(t *testing.T) {
	fresh := func() *kv.State {
		return stateOf("node/n1", gone, "aff/n1/"+nets[0], confirmed, "aff/n2/"+nets[3], pending,
			"block/"+nets[0], blockOf(0, "n1", is{0, "h1", "n1"}), "block/"+nets[1], blockOf(1, ""), "block/"+nets[2], blockOf(2, "", is{1, "h2", "n1"}, is{2, "h3", "n2"}, is{3, "h4", "n2"}),
			"handle/h1", counted(3), "handle/h2", counted(0, 0, 1), "handle/h4", counted(9), "handle/h5", counted(9))
	}
	_, whole := run(t, fresh().Do)
	for k := range whole {
		s, steps := fresh(), 0
		got, asked := run(t, func(o kv.Op) kv.Result {
			steps++
			r := s.Do(o)
			if steps == k+1 {
				// What else is told beside it does not count.
				r.Code = api.ErrLost
			}
			return r
		})
		if !got.is(failed(api.ErrLost)) || !slices.Equal(asked, whole[:k+1]) {
			t.Errorf("lost at the step %d: ended with %v behind %q", k, got, spelt(asked))
		}
	}
	if n := 6 + 6 + 5 + 5 + 4 + 1 + 4; len(whole) != n {
		t.Errorf("%d steps; want %d: %q", len(whole), n, spelt(whole))
	}
}

func TestNoProcedure(t *testing.T) {
	gc.Go(nil, func(l []uint32, e api.Errno) { t.Errorf("without a procedure it ended: %v, %d", l, e) })
	gc.Go(nil, nil)
}

// Nobody needs to be called at the end.
func TestNoThen(t *testing.T) {
	for _, told := range []kv.Result{{}, {Code: api.ErrNone}, {Code: api.ErrLost}, {Code: api.ErrStale}} {
		p := mach.New()
		gc.Go(p, nil)
		if !mach.Run(p, func(kv.Op) kv.Result { return told }, 6) {
			t.Errorf("told %#v it goes on", told)
		}
	}
	s := stateOf("node/n1", gone, "block/"+nets[0], blockOf(0, "", is{0, "h1", "n1"}), "handle/h1", counted(1))
	p := mach.New()
	gc.Go(p, nil)
	if !mach.Run(p, s.Do, 99) || s.Len() != 1 {
		t.Errorf("nobody is called: %#v", s.All())
	}
}

// At the end the procedure asks nothing: whoever is called may ask by it anew, and write into what was told.
func TestOneBehindAnother(t *testing.T) {
	s := stateOf("node/n1", gone)
	p, ends := mach.New(), 0
	var on func(l []uint32, e api.Errno)
	on = func(l []uint32, e api.Errno) {
		want := freed()
		if ends > 0 {
			want = freed(1, 65)
		}
		if got := (ending{l, e}); !got.is(want) {
			t.Errorf("the end %d is %v; want %v", ends, got, want)
		}
		clear(l)
		_ = append(l[:0], 7, 7, 7)
		for k := range 2 {
			create(s, "block/"+nets[k], blockOf(k, "", is{1, "h1", "n1"}))
		}
		if ends++; ends < 4 {
			gc.Go(p, on)
		}
	}
	gc.Go(p, on)
	if !mach.Run(p, s.Do, 999) || ends != 4 {
		t.Errorf("ended %d times by %d steps: %#v", ends, p.Steps(), s.All())
	}
}

// What it asked ahead is not asked any more.
func TestInPlaceOfAnother(t *testing.T) {
	p := mach.New()
	p.Ask(get("ahead"), func(kv.Result) { t.Error("what was asked ahead goes on") })
	gc.Go(p, nil)
	if o, asks := p.Op(); !asks || o != (kv.Op{Kind: kv.List, Key: names.Nodes}) {
		t.Errorf("asks %#v, %v", o, asks)
	}
}

func TestBound(t *testing.T) {
	for items, want := range map[int]int{math.MinInt: 6, -1: 6, 0: 6, 1: 206, 2: 406, 999999: 199999806, 1000000: 200000006, 1000001: 200000006, math.MaxInt: 200000006} {
		if got := gc.Bound(items); got != want {
			t.Errorf("of %d items: %d; want %d", items, got, want)
		}
	}
}

// As much as one block can ask for: all its addresses under handles of their own, some for a node that is gone.
func TestBoundHolds(t *testing.T) {
	for _, given := range []int{0, 1, 32, 63, 64} {
		for _, hands := range []string{"right", "wrong", "none", "nothing"} {
			var l []is
			for k := range 64 {
				node := "n1"
				if k >= given {
					node = "n2"
				}
				l = append(l, is{uint32(k), fmt.Sprintf("h%d", k), node})
			}
			s := stateOf("block/"+nets[0], blockOf(0, "n1", l...), "aff/n1/"+nets[0], confirmed, "node/n1", gone)
			for k := range 64 {
				if val := map[string]string{"right": counted(1), "wrong": counted(5, 7), "nothing": "-"}[hands]; val != "" {
					create(s, fmt.Sprintf("handle/h%d", k), val)
				}
			}
			items := s.Len()
			got, asked := run(t, s.Do)
			var want []uint32
			for k := range given {
				want = append(want, uint32(k))
			}
			if !got.is(freed(want...)) || len(asked) > 6+200*items {
				t.Errorf("%d of 64, handles that are %s: ended with %v behind %d steps, of %d items", given, hands, got, len(asked), items)
			}
		}
	}
}

// A handle has as many Counts as it can have, of the first blocks: more it never has, whatever blocks say.
func TestMany(t *testing.T) {
	s := kv.New()
	for k := range 4100 {
		b, _ := block.New(base+64*uint32(k), "")
		b, _, _ = block.Assign(b, 1, block.Attr{Handle: "h1", Node: "n1"})
		create(s, names.Block(b.Addr), put(b))
	}
	got, asked := run(t, s.Do)
	h, e := handle.Read(s.Do(get("handle/h1")).Val)
	if !got.is(freed()) || len(asked) != 7 || e != api.OK || h.Total() != 4096 {
		t.Errorf("ended with %v behind %q: %d, %d", got, spelt(asked), h.Total(), e)
	}
	// By that it has just what it can have.
	rev := s.Rev()
	if run(t, s.Do); s.Rev() != rev {
		t.Error("once more: it writes")
	}
	set(s, "node/n1", gone)
	if got, _ := run(t, s.Do); len(got.l) != 4100 || s.Len() != 1 {
		t.Errorf("all is freed: %d, %d", len(got.l), s.Len())
	}
}

// anyState tells a state of blocks, affinities, handles and nodes, each however it may be; all is a record.
func anyState(chance *rand.Rand) *kv.State {
	s := kv.New()
	nodes, hands := []string{"n1", "n2", "n3", "n4"}, []string{"h1", "h2", "h3"}
	for _, node := range nodes[:3] {
		if chance.Intn(4) > 0 {
			create(s, "node/"+node, []string{present, gone}[chance.Intn(2)])
		}
	}
	for k, net := range nets {
		for _, node := range nodes {
			if chance.Intn(3) == 0 {
				create(s, "aff/"+node+"/"+net, []string{pending, confirmed, leaving}[chance.Intn(3)])
			}
		}
		if chance.Intn(4) > 0 {
			var l []is
			for i := range uint32(chance.Intn(7)) {
				l = append(l, is{i * uint32(1+chance.Intn(10)), hands[chance.Intn(3)], nodes[chance.Intn(4)]})
			}
			create(s, "block/"+net, blockOf(k, append(nodes, "", "")[chance.Intn(6)], l...))
		}
	}
	for _, id := range append(hands, "h4") {
		if chance.Intn(3) > 0 {
			create(s, "handle/"+id, counted(chance.Intn(4), chance.Intn(2), chance.Intn(3), chance.Intn(2)))
		}
	}
	return s
}

// Alone, whatever there is: what is left over is gone then, what is given for others stays, and nothing else is.
func TestAlone(t *testing.T) {
	chance := rand.New(rand.NewSource(29))
	for range 4000 {
		s := anyState(chance)
		ahead, e := view.Of(s.All())
		if e != api.OK {
			t.Fatalf("there is what is no record: %#v", s.All())
		}
		text, items := fmt.Sprintf("%#v", s.All()), s.Len()
		got, asked := run(t, s.Do)
		now, e := view.Of(s.All())
		if e != api.OK || got.e != api.OK || len(asked) > gc.Bound(items) {
			t.Fatalf("%s: ended with %v behind %d steps, %d: %#v", text, got, len(asked), e, s.All())
		}
		if w := wrong(ahead, now, got.l); w != "" {
			t.Fatalf("%s: %s: freed %v, left %#v", text, w, got.l, s.All())
		}
		rev := s.Rev()
		if again, asked := run(t, s.Do); !again.is(freed()) || len(asked) != 6 || s.Rev() != rev {
			t.Fatalf("%s: once more: freed %v, asked %q", text, again, spelt(asked))
		}
	}
}

// wrong tells what is not as it has to be behind collecting alone, by what was freed.
func wrong(ahead, now view.View, freed []uint32) string {
	left, had := now.Given(), ahead.Given()
	for addr, a := range had {
		is, has := left[addr]
		if goes := ahead.Nodes[a.Node]; has == goes || has && is != a || goes != slices.Contains(freed, addr) {
			return "an address is not what it has to be"
		}
		if has {
			delete(left, addr)
		}
	}
	if len(left) > 0 || !maps.Equal(ahead.Nodes, now.Nodes) {
		return "there is more than ahead"
	}
	for a, state := range now.Affs {
		if state != recs.Confirmed || ahead.Nodes[a.Node] || ahead.Affs[a] != state {
			return "an affinity is not what it has to be"
		}
	}
	for a, state := range ahead.Affs {
		if _, there := now.Affs[a]; !there && state == recs.Confirmed && !ahead.Nodes[a.Node] {
			return "an affinity is gone"
		}
	}
	return wrongCounts(now)
}

// wrongCounts tells what is not as it has to be of blocks that are nobody's, and of handles.
func wrongCounts(now view.View) string {
	hands := map[string]handle.Handle{}
	for _, b := range now.Blocks {
		if b.Aff == "" && b.Empty() {
			return "a block that is nobody's has nothing"
		}
		for a, n := range b.Count() {
			hands[a.Handle], _ = handle.Add(hands[a.Handle], b.Addr, n)
		}
	}
	if !maps.EqualFunc(hands, now.Handles, func(a, b handle.Handle) bool { return slices.Equal(a.Counts, b.Counts) }) {
		return "handles have not what blocks say"
	}
	return ""
}
