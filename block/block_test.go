package block_test

import (
	"maps"
	"math"
	"math/rand"
	"slices"
	"strconv"
	"strings"
	"testing"

	"virgate/api"
	"virgate/block"
)

const base = 10 << 24

// firsts are first addresses of blocks: the least, the greatest, and some between.
var firsts = []uint32{0, 64, base, base + 64*7, 1<<31 - 64, 1 << 31, 1<<32 - 64}

// rightNames are names, at their bounds too.
var rightNames = []string{"a", "n1", "n2", "N1", "0", ".", "-", "_", "..", "a.b-c_9", strings.Repeat("z", 63), strings.Repeat("z", 64)}

// wrongNames are none; an empty one is not among them, as a block may be nobody's.
var wrongNames = []string{" ", "a b", "a/b", "n1 ", "n1\n", "\x00", "a\x00", "\xff", "\u00e9", "a:b", "@", "[", "`", "{", strings.Repeat("z", 65), strings.Repeat("z", 5000)}

// wrongAttrs may not be: of a handle that is none, of a node that is none.
func wrongAttrs() []block.Attr {
	l := []block.Attr{{}}
	for _, s := range append([]string{""}, wrongNames...) {
		l = append(l, block.Attr{Handle: s, Node: "n1"}, block.Attr{Handle: "h1", Node: s})
	}
	return l
}

// attr tells the k-th of many attributes, no two of them the same; two next to one another have the same handle, and of seven one has the same node.
func attr(k int) block.Attr {
	return block.Attr{Handle: "h" + strconv.Itoa(k/2), Node: "n" + strconv.Itoa(k%7)}
}

// deep tells a copy of b that shares nothing with it.
func deep(b block.Block) block.Block {
	b.Free = append([]uint8(nil), b.Free...)
	b.Attrs = append([]block.Attr(nil), b.Attrs...)
	return b
}

// same holds two blocks against one another, part by part, without the package's help.
func same(a, b block.Block) bool {
	if a.Addr != b.Addr || a.Aff != b.Aff || len(a.Free) != len(b.Free) || len(a.Attrs) != len(b.Attrs) {
		return false
	}
	for i := range 64 {
		if a.Slots[i] != b.Slots[i] {
			return false
		}
	}
	for i := range a.Free {
		if a.Free[i] != b.Free[i] {
			return false
		}
	}
	for i := range a.Attrs {
		if a.Attrs[i].Handle != b.Attrs[i].Handle || a.Attrs[i].Node != b.Attrs[i].Node {
			return false
		}
	}
	return true
}

func isNil(b block.Block) bool {
	return same(b, block.Block{})
}

// other is a block as another writer keeps it: under which attribute each slot is given, what is free, and which attributes there are.
type other struct {
	addr  uint32
	aff   string
	under map[int]block.Attr
	free  []int
	attrs []block.Attr
}

// clone tells a copy: giving and taking change what is kept.
func (o *other) clone() *other {
	return &other{addr: o.addr, aff: o.aff, under: maps.Clone(o.under), free: slices.Clone(o.free), attrs: slices.Clone(o.attrs)}
}

// block tells it in the form of the package.
func (o *other) block() block.Block {
	b := block.Block{Addr: o.addr, Aff: o.aff}
	for k, a := range o.attrs {
		b.Attrs = append(b.Attrs, a)
		for i, x := range o.under {
			if x == a {
				b.Slots[i] = uint8(k + 1)
			}
		}
	}
	for _, i := range o.free {
		b.Free = append(b.Free, uint8(i))
	}
	return b
}

func (o *other) give(i int, a block.Attr) {
	known := false
	for _, x := range o.attrs {
		known = known || x == a
	}
	if !known {
		o.attrs = append(o.attrs, a)
	}
	o.under[i] = a
	var free []int
	for _, x := range o.free {
		if x != i {
			free = append(free, x)
		}
	}
	o.free = free
}

func (o *other) take(i int) {
	a := o.under[i]
	delete(o.under, i)
	o.free = append(o.free, i)
	for _, x := range o.under {
		if x == a {
			return
		}
	}
	var attrs []block.Attr
	for _, x := range o.attrs {
		if x != a {
			attrs = append(attrs, x)
		}
	}
	o.attrs = attrs
}

// assign tells what is given by an Assign.
func (o *other) assign(n int, a block.Attr) []uint32 {
	var l []uint32
	for len(l) < n && len(o.free) > 0 {
		l = append(l, o.addr+uint32(o.free[0]))
		o.give(o.free[0], a)
	}
	return l
}

// release tells what is freed by a Release.
func (o *other) release(l []uint32) []uint32 {
	var told []uint32
	for _, addr := range l {
		for i := range 64 {
			if _, given := o.under[i]; given && o.addr+uint32(i) == addr {
				o.take(i)
				told = append(told, addr)
			}
		}
	}
	return told
}

// meant tells the addresses that are given under attributes that are meant, rising.
func (o *other) meant(is func(a block.Attr) bool) []uint32 {
	var l []uint32
	for i := range 64 {
		if a, given := o.under[i]; given && is(a) {
			l = append(l, o.addr+uint32(i))
		}
	}
	return l
}

// anyOther tells any block that is right: of few or of many attributes, in any order.
func anyOther(chance *rand.Rand) *other {
	o := &other{addr: firsts[chance.Intn(len(firsts))], under: map[int]block.Attr{}}
	if chance.Intn(3) > 0 {
		o.aff = rightNames[chance.Intn(len(rightNames))]
	}
	o.free = chance.Perm(64)
	kinds := 1 + chance.Intn(64)
	many := []int{0, 1, 3, 20, 63, 64}[chance.Intn(6)]
	for range many {
		o.give(o.free[0], attr(chance.Intn(kinds)))
	}
	chance.Shuffle(len(o.attrs), func(i, j int) { o.attrs[i], o.attrs[j] = o.attrs[j], o.attrs[i] })
	return o
}

// allUnlike tells a block each of whose addresses is given under another attribute.
func allUnlike() *other {
	o := &other{addr: base, aff: "n1", under: map[int]block.Attr{}}
	for i := range 64 {
		o.free = append(o.free, i)
	}
	for i := range 64 {
		o.give(63-i, attr(i))
	}
	return o
}

// others are some blocks at the edges, and many of any kind.
func others(n int) []*other {
	chance := rand.New(rand.NewSource(15))
	l := []*other{allUnlike()}
	for range n {
		l = append(l, anyOther(chance))
	}
	return l
}

// few tells a right block of three attributes, in which 5, 6 and 9 are given under the first one, 0 and 63 under the second one, 20 under the third one.
func few() block.Block {
	b := block.Block{Addr: base, Aff: "n1", Attrs: []block.Attr{{Handle: "h1", Node: "n1"}, {Handle: "h2", Node: "n1"}, {Handle: "h1", Node: "n2"}}}
	b.Slots[5], b.Slots[6], b.Slots[9], b.Slots[0], b.Slots[63], b.Slots[20] = 1, 1, 1, 2, 2, 3
	for i := range 64 {
		if b.Slots[i] == 0 {
			b.Free = append(b.Free, uint8(i))
		}
	}
	return b
}

// wrongBlocks tells blocks that are not right, each in one thing alone as far as that may be.
func wrongBlocks() map[string]block.Block {
	l := map[string]block.Block{"zero": {}, "zero, of somebody": {Addr: base, Aff: "n1"}}
	put := func(what string, change func(b *block.Block)) {
		b := few()
		change(&b)
		l[what] = b
	}
	for i := range 6 {
		put("address, bit "+strconv.Itoa(i), func(b *block.Block) { b.Addr ^= 1 << i })
	}
	for _, s := range wrongNames {
		put("aff "+strconv.Quote(s), func(b *block.Block) { b.Aff = s })
	}
	for k := range 3 {
		for i, a := range wrongAttrs() {
			put("attribute "+strconv.Itoa(k)+", "+strconv.Itoa(i), func(b *block.Block) { b.Attrs[k] = a })
		}
	}
	put("two attributes the same", func(b *block.Block) { b.Attrs[2] = b.Attrs[0] })
	put("the two ahead the same", func(b *block.Block) { b.Attrs[1] = b.Attrs[0] })
	put("an attribute without a slot", func(b *block.Block) { b.Attrs = append(b.Attrs, attr(60)) })
	put("an attribute whose slot is another one's", func(b *block.Block) { b.Slots[20] = 1 })
	put("the first attribute without a slot", func(b *block.Block) { b.Slots[5], b.Slots[6], b.Slots[9] = 2, 2, 3 })
	put("an attribute too few", func(b *block.Block) { b.Attrs = b.Attrs[:2] })
	put("no attributes", func(b *block.Block) { b.Attrs = nil })
	for _, k := range []uint8{4, 5, 63, 64, 65, 66, 127, 128, 254, 255} {
		put("a slot of "+strconv.Itoa(int(k)), func(b *block.Block) { b.Slots[6] = k })
	}
	put("nothing in Free", func(b *block.Block) { b.Free = nil })
	put("one of Free is missing", func(b *block.Block) { b.Free = b.Free[1:] })
	put("the last one of Free is missing", func(b *block.Block) { b.Free = b.Free[:len(b.Free)-1] })
	put("one of Free twice", func(b *block.Block) { b.Free = append(b.Free, b.Free[0]) })
	put("one of Free twice, in place of another one", func(b *block.Block) { b.Free[3] = b.Free[4] })
	put("a given one in Free", func(b *block.Block) { b.Free = append(b.Free, 5) })
	put("a given one in Free, in place of another one", func(b *block.Block) { b.Free[3] = 63 })
	put("a free one given, too", func(b *block.Block) { b.Slots[30] = 1 })
	put("a given one free, and not in Free", func(b *block.Block) { b.Slots[5] = 0 })
	for _, i := range []uint8{64, 65, 127, 128, 192, 255} {
		put("no slot in Free: "+strconv.Itoa(int(i)), func(b *block.Block) { b.Free = append(b.Free, i) })
		put("no slot in Free, in place of one: "+strconv.Itoa(int(i)), func(b *block.Block) { b.Free[2] = i })
	}
	put("much in Free", func(b *block.Block) { b.Free = make([]uint8, 100000) })
	full := allUnlike().block()
	full.Attrs = append(full.Attrs, attr(64))
	l["65 attributes"] = full
	for range 1000 {
		full.Attrs = append(full.Attrs, attr(len(full.Attrs)))
	}
	l["many attributes"] = full
	return l
}

// isRight tells by the words, one after the other, whether b is right.
func isRight(b block.Block) bool {
	isName := func(s string) bool {
		for i := range len(s) {
			if !strings.Contains("abcdefghijklmnopqrstuvwxyzABCDEFGHIJKLMNOPQRSTUVWXYZ0123456789.-_", s[i:i+1]) {
				return false
			}
		}
		return len(s) >= 1 && len(s) <= 64
	}
	if b.Addr%64 != 0 || b.Aff != "" && !isName(b.Aff) || len(b.Attrs) > 64 {
		return false
	}
	for k, a := range b.Attrs {
		slots := 0
		for _, x := range b.Slots {
			if int(x) == k+1 {
				slots++
			}
		}
		for j, x := range b.Attrs {
			if j != k && x == a {
				return false
			}
		}
		if slots == 0 || !isName(a.Handle) || !isName(a.Node) {
			return false
		}
	}
	times := map[uint8]int{}
	for _, i := range b.Free {
		times[i]++
	}
	for i := range 256 {
		want := 0
		if i < 64 && b.Slots[i] == 0 {
			want = 1
		}
		if times[uint8(i)] != want || i < 64 && int(b.Slots[i]) > len(b.Attrs) {
			return false
		}
	}
	return true
}

// wantBlock holds b against the block that another writer keeps; whatever is told is right.
func wantBlock(t *testing.T, what string, b block.Block, want block.Block) {
	t.Helper()
	if !same(b, want) {
		t.Fatalf("%s: %v; want %v", what, b, want)
	}
	if !block.Right(b) || !isRight(b) {
		t.Fatalf("%s: %v is not right", what, b)
	}
}

// P15.1: the block of an address, with nothing given; ErrArg of whose it can't be.
func TestNew(t *testing.T) {
	for _, a := range firsts {
		for _, aff := range append([]string{""}, rightNames...) {
			want := block.Block{Addr: a, Aff: aff}
			for i := range 64 {
				want.Free = append(want.Free, uint8(i))
			}
			for _, more := range []uint32{0, 1, 5, 31, 32, 62, 63} {
				b, e := block.New(a+more, aff)
				if e != api.OK {
					t.Fatalf("New(%d, %q): %d", a+more, aff, e)
				}
				wantBlock(t, "New", b, want)
			}
		}
		for _, aff := range wrongNames {
			if b, e := block.New(a, aff); !isNil(b) || e != api.ErrArg {
				t.Errorf("New(%d, %q) = %v, %d", a, aff, b, e)
			}
		}
	}
}

// P15.1: blocks that are right, of all kinds.
func TestRight(t *testing.T) {
	if !isRight(few()) || !block.Right(few()) {
		t.Error("few is not right")
	}
	for _, o := range others(300) {
		if b := o.block(); !isRight(b) || !block.Right(b) {
			t.Errorf("%v is not right", b)
		}
	}
	for _, s := range rightNames {
		b := few()
		b.Aff, b.Attrs[0].Handle, b.Attrs[1].Node = s, s, s
		if !block.Right(b) {
			t.Errorf("not right with the name %q", s)
		}
	}
}

// P15.1: each thing for which a block is not right.
func TestRightOfWrong(t *testing.T) {
	for what, b := range wrongBlocks() {
		if isRight(b) || block.Right(b) {
			t.Errorf("right: %s", what)
		}
	}
}

// P15.1: blocks in which any one thing was changed are right by the words, or not.
func TestRightAmongOthers(t *testing.T) {
	chance := rand.New(rand.NewSource(16))
	right := 0
	for range 6000 {
		b := anyOther(chance).block()
		i, j := chance.Intn(64), chance.Intn(64)
		switch chance.Intn(6) {
		case 0:
			b.Slots[i] = uint8(chance.Intn(68))
		case 1:
			b.Slots[i], b.Slots[j] = b.Slots[j], b.Slots[i]
		case 2:
			if len(b.Free) > 0 {
				b.Free[i%len(b.Free)] = uint8(chance.Intn(70))
			}
		case 3:
			b.Free = append(b.Free, uint8(j))
		case 4:
			if len(b.Attrs) > 0 {
				b.Attrs[i%len(b.Attrs)] = attr(j)
			}
		default:
			b.Addr += uint32(i)
		}
		if block.Right(b) != isRight(b) {
			t.Fatalf("Right(%v) = %v", b, block.Right(b))
		}
		if isRight(b) {
			right++
		}
	}
	if right < 100 || right > 5900 {
		t.Errorf("of 6000 blocks %d are right: too few of the one kind", right)
	}
}

// P15.1: two blocks are the same, if all their parts are, right or not.
func TestSame(t *testing.T) {
	for _, o := range others(100) {
		if b := o.block(); !block.Same(b, deep(b)) {
			t.Errorf("%v is not the same as itself", b)
		}
	}
	b := few()
	for what, c := range wrongBlocks() {
		if block.Same(b, c) || block.Same(c, b) || !block.Same(c, deep(c)) {
			t.Errorf("Same: %s", what)
		}
	}
	for i := range 64 {
		c := deep(b)
		c.Slots[i]++
		if block.Same(b, c) || block.Same(c, b) {
			t.Errorf("Same, with another slot %d", i)
		}
	}
	for i := range len(b.Free) - 1 {
		c := deep(b)
		c.Free[i], c.Free[i+1] = c.Free[i+1], c.Free[i]
		if block.Same(b, c) || block.Same(c, b) {
			t.Errorf("Same, with another order of Free at %d", i)
		}
	}
	for _, change := range []func(c *block.Block){
		func(c *block.Block) { c.Addr += 64 },
		func(c *block.Block) { c.Aff = "" },
		func(c *block.Block) { c.Aff = "n2" },
		func(c *block.Block) { c.Attrs[2].Handle = "h9" },
		func(c *block.Block) { c.Attrs[2].Node = "n9" },
		func(c *block.Block) { c.Attrs[0], c.Attrs[2] = c.Attrs[2], c.Attrs[0] },
	} {
		c := deep(b)
		if change(&c); block.Same(b, c) || block.Same(c, b) {
			t.Errorf("Same: %v and %v", b, c)
		}
	}
	if !block.Same(block.Block{}, block.Block{Free: []uint8{}, Attrs: []block.Attr{}}) {
		t.Error("an empty list is not the same as another one")
	}
}

// P15.1: a block of another node, or of nobody.
func TestOwn(t *testing.T) {
	for _, o := range others(60) {
		b := o.block()
		for _, s := range append([]string{""}, rightNames...) {
			c, e := block.Own(b, s)
			if e != api.OK {
				t.Fatalf("Own(%q): %d", s, e)
			}
			want := o.block()
			want.Aff = s
			wantBlock(t, "Own", c, want)
		}
		for _, s := range wrongNames {
			if c, e := block.Own(b, s); !isNil(c) || e != api.ErrArg {
				t.Errorf("Own(%q) = %v, %d", s, c, e)
			}
		}
	}
}

// P15.2: the first ones of Free, in order, all if there are fewer; none under an attribute of which nothing is left.
func TestAssign(t *testing.T) {
	for _, o := range others(150) {
		for _, n := range []int{0, 1, 2, 5, 44, 61, 63, 64, 65, 100, 255, 256, 1 << 32, math.MaxInt} {
			for _, a := range append(slices.Clone(o.attrs[:min(2, len(o.attrs))]), attr(500), block.Attr{Handle: "x", Node: strings.Repeat("z", 64)}) {
				p := o.clone()
				want := p.assign(n, a)
				b, l, e := block.Assign(o.block(), n, a)
				if e != api.OK || !slices.Equal(l, want) {
					t.Fatalf("Assign(%v, %d, %v): %v, %d; want %v", o.block(), n, a, l, e, want)
				}
				wantBlock(t, "Assign", b, p.block())
			}
		}
	}
}

// P15.2: ErrArg of an attribute that may not be, and of fewer than none.
func TestAssignRefuses(t *testing.T) {
	b := few()
	for _, n := range []int{-1, -2, -64, math.MinInt, -1 << 32} {
		if c, l, e := block.Assign(b, n, b.Attrs[0]); !isNil(c) || len(l) > 0 || e != api.ErrArg {
			t.Errorf("Assign of %d: %v, %v, %d", n, c, l, e)
		}
	}
	for _, a := range wrongAttrs() {
		for _, n := range []int{-1, 0, 1, 64} {
			if c, l, e := block.Assign(b, n, a); !isNil(c) || len(l) > 0 || e != api.ErrArg {
				t.Errorf("Assign of %d under %q: %v, %v, %d", n, a, c, l, e)
			}
		}
		// ErrArg is told of an address that is given, too.
		for _, addr := range []uint32{base + 5, base + 7} {
			if c, e := block.AssignAt(b, addr, a); !isNil(c) || e != api.ErrArg {
				t.Errorf("AssignAt of %d under %q: %v, %d", addr, a, c, e)
			}
		}
	}
}

// P15.2: one address, if it is of the block, and free; the order of the others in Free stays.
func TestAssignAt(t *testing.T) {
	for n, o := range others(150) {
		b := o.block()
		for i := range 64 {
			a := attr((i + n) % 70)
			p := o.clone()
			c, e := block.AssignAt(b, o.addr+uint32(i), a)
			if _, given := p.under[i]; given {
				if !isNil(c) || e != api.ErrTaken {
					t.Fatalf("AssignAt of one that is given: %v, %d", c, e)
				}
				continue
			}
			p.give(i, a)
			if e != api.OK {
				t.Fatalf("AssignAt(%v, %d): %d", b, i, e)
			}
			wantBlock(t, "AssignAt", c, p.block())
		}
		for _, addr := range []uint32{o.addr - 1, o.addr - 64, o.addr + 64, o.addr + 127, o.addr + 1<<31, o.addr + 5 + 1<<8, o.addr + 5 + 1<<24} {
			if c, e := block.AssignAt(b, addr, attr(1)); !isNil(c) || e != api.ErrArg {
				t.Errorf("AssignAt of another block's %d in %d: %v, %d", addr, o.addr, c, e)
			}
		}
	}
}

// P15.2: those that are given, each once, in order; what is free, or another block's, is passed over.
func TestRelease(t *testing.T) {
	chance := rand.New(rand.NewSource(17))
	for _, o := range others(400) {
		before := o.block()
		var l []uint32
		for range []int{0, 1, 3, 64, 300}[chance.Intn(5)] {
			l = append(l, o.addr+uint32(chance.Intn(80))-8)
		}
		kept := slices.Clone(l)
		b, told, e := block.Release(before, l)
		want := o.release(kept)
		if e != api.OK || !slices.Equal(told, want) || !slices.Equal(l, kept) {
			t.Fatalf("Release(%v, %v): %v, %d; want %v", before, kept, told, e, want)
		}
		wantBlock(t, "Release", b, o.block())
	}
}

// P15.2: the attributes that stay keep their order, and slots are turned to their new numbers.
func TestReleaseTurns(t *testing.T) {
	b, l, e := block.Release(few(), []uint32{base + 63, base + 6, base + 70, base + 63, base + 7, base})
	if e != api.OK || !slices.Equal(l, []uint32{base + 63, base + 6, base}) {
		t.Fatal("Release", l, e)
	}
	if !slices.Equal(b.Attrs, []block.Attr{{Handle: "h1", Node: "n1"}, {Handle: "h1", Node: "n2"}}) || b.Slots[5] != 1 || b.Slots[9] != 1 || b.Slots[20] != 2 {
		t.Error("attributes behind Release", b.Attrs, b.Slots)
	}
	if n := len(b.Free); n != 61 || !slices.Equal(b.Free[58:], []uint8{63, 6, 0}) {
		t.Error("Free behind Release", b.Free)
	}
}

// P15.2: all of a handle, all for a node, by their addresses; none, if that has none.
func TestReleaseBy(t *testing.T) {
	texts := slices.Concat([]string{"", "h0", "h1", "h2", "h31", "n0", "n1", "n3", "n6", "nobody"}, wrongNames)
	for seed := range 60 {
		for _, s := range texts {
			for _, node := range []bool{false, true} {
				o := anyOther(rand.New(rand.NewSource(int64(seed))))
				if seed == 0 {
					o = allUnlike()
				}
				before := o.block()
				call, of := block.ReleaseHandle, func(a block.Attr) bool { return a.Handle == s }
				if node {
					call, of = block.ReleaseNode, func(a block.Attr) bool { return a.Node == s }
				}
				b, told, e := call(before, s)
				want := o.release(o.meant(of))
				if e != api.OK || !slices.Equal(told, want) {
					t.Fatalf("of %v, by node: %v, %q: %v, %d; want %v", before, node, s, told, e, want)
				}
				wantBlock(t, "ReleaseHandle, ReleaseNode", b, o.block())
			}
		}
	}
}

// P15.3: what is given, under which attribute, and how many under each.
func TestHowItStands(t *testing.T) {
	for _, o := range others(300) {
		b := o.block()
		if b.Empty() != (len(o.under) == 0) {
			t.Errorf("Empty of %v: %v", b, b.Empty())
		}
		if want := o.meant(func(block.Attr) bool { return true }); !slices.Equal(b.Given(), want) {
			t.Errorf("Given of %v: %v; want %v", b, b.Given(), want)
		}
		count := map[block.Attr]int{}
		for i := range 64 {
			a, ok := b.Of(o.addr + uint32(i))
			want, given := o.under[i]
			if a != want || ok != given {
				t.Errorf("Of(%d) of %v: %v, %v", i, b, a, ok)
			}
			if given {
				count[want]++
			}
		}
		got := b.Count()
		for _, a := range o.attrs {
			if got[a] != count[a] || len(got) != len(count) {
				t.Errorf("Count of %v: %v; want %v", b, got, count)
			}
		}
		for _, addr := range []uint32{o.addr - 1, o.addr - 64, o.addr + 64, o.addr + 127, o.addr + 1<<31} {
			if a, ok := b.Of(addr); a != (block.Attr{}) || ok {
				t.Errorf("Of another block's %d: %v, %v", addr, a, ok)
			}
		}
	}
	b, _ := block.New(0, "")
	if !b.Empty() || len(b.Count()) != 0 || len(b.Given()) != 0 {
		t.Error("of an empty block", b.Empty(), b.Count(), b.Given())
	}
}

// P1, P15.1 to P15.3: of a block that is not right nothing is told, and it is refused.
func TestOfWrong(t *testing.T) {
	x := block.Attr{Handle: "h1", Node: "n1"}
	l := []uint32{base, base + 5, base + 7}
	for what, b := range wrongBlocks() {
		if b.Empty() || len(b.Count()) != 0 || len(b.Given()) != 0 {
			t.Errorf("%s: Empty %v, Count %v, Given %v", what, b.Empty(), b.Count(), b.Given())
		}
		for i := range 66 {
			addr := b.Addr + uint32(i) - 1
			if a, ok := b.Of(addr); a != (block.Attr{}) || ok {
				t.Errorf("%s: Of(%d) = %v, %v", what, addr, a, ok)
			}
			if c, e := block.AssignAt(b, addr, x); !isNil(c) || e != api.ErrArg {
				t.Errorf("%s: AssignAt %v, %d", what, c, e)
			}
		}
		for _, n := range []int{0, 1, 64} {
			if c, told, e := block.Assign(b, n, x); !isNil(c) || len(told) != 0 || e != api.ErrArg {
				t.Errorf("%s: Assign %v, %v, %d", what, c, told, e)
			}
		}
		for _, call := range []func() (block.Block, []uint32, api.Errno){
			func() (block.Block, []uint32, api.Errno) { return block.Release(b, l) },
			func() (block.Block, []uint32, api.Errno) { return block.Release(b, nil) },
			func() (block.Block, []uint32, api.Errno) { return block.ReleaseHandle(b, "h1") },
			func() (block.Block, []uint32, api.Errno) { return block.ReleaseNode(b, "n1") },
			func() (block.Block, []uint32, api.Errno) {
				c, e := block.Own(b, "")
				return c, nil, e
			},
		} {
			if c, told, e := call(); !isNil(c) || len(told) != 0 || e != api.ErrArg {
				t.Errorf("%s: %v, %v, %d", what, c, told, e)
			}
		}
	}
}

// P15.4: in a long walk the block is what another writer makes of it.
func TestWalk(t *testing.T) {
	chance := rand.New(rand.NewSource(18))
	for range 20 {
		o := anyOther(chance)
		b := o.block()
		for range 150 {
			var got, want []uint32
			var e api.Errno
			a := attr(chance.Intn(12))
			switch chance.Intn(6) {
			case 0, 1:
				n := chance.Intn(9)
				b, got, e = block.Assign(b, n, a)
				want = o.assign(n, a)
			case 2:
				if len(o.free) > 0 {
					i := o.free[chance.Intn(len(o.free))]
					b, e = block.AssignAt(b, o.addr+uint32(i), a)
					o.give(i, a)
				}
			case 3:
				l := []uint32{o.addr + uint32(chance.Intn(64)), o.addr + uint32(chance.Intn(64)), o.addr + uint32(chance.Intn(64))}
				b, got, e = block.Release(b, l)
				want = o.release(l)
			case 4:
				b, got, e = block.ReleaseHandle(b, a.Handle)
				want = o.release(o.meant(func(x block.Attr) bool { return x.Handle == a.Handle }))
			default:
				b, got, e = block.ReleaseNode(b, a.Node)
				want = o.release(o.meant(func(x block.Attr) bool { return x.Node == a.Node }))
			}
			if e != api.OK || !slices.Equal(got, want) {
				t.Fatalf("told %v, %d; want %v", got, e, want)
			}
			wantBlock(t, "walk", b, o.block())
		}
	}
}

// under tells of each address that is given under which attribute.
func under(b block.Block) map[uint32]block.Attr {
	m := map[uint32]block.Attr{}
	for _, addr := range b.Given() {
		m[addr], _ = b.Of(addr)
	}
	return m
}

// P15.4: what Assign gives was free, and nothing else changes; behind Release of it the same is given as ahead.
func TestGiveAndFree(t *testing.T) {
	for n, o := range others(200) {
		b := o.block()
		ahead := under(b)
		a := attr(n % 66)
		c, l, _ := block.Assign(b, n%10, a)
		for _, addr := range l {
			if _, given := b.Of(addr); given {
				t.Errorf("%d was given", addr)
			}
		}
		for addr, x := range under(c) {
			if was, given := ahead[addr]; given && was != x || !given && (x != a || !slices.Contains(l, addr)) {
				t.Errorf("%d is given under %v", addr, x)
			}
		}
		d, freed, e := block.Release(c, l)
		behind := under(d)
		if e != api.OK || !slices.Equal(freed, l) || len(behind) != len(ahead) || len(under(c)) != len(ahead)+len(l) {
			t.Errorf("Release of %v: %v, %d", l, freed, e)
		}
		for addr, x := range ahead {
			if behind[addr] != x {
				t.Errorf("%d is given under %v; it was under %v", addr, behind[addr], x)
			}
		}
	}
}

// Example 1 of the chapter.
func TestExample(t *testing.T) {
	b, _ := block.New(base, "n1")
	c, l, _ := block.Assign(b, 2, attr(0))
	if !slices.Equal(l, []uint32{base, base + 1}) {
		t.Error("Assign of two", l)
	}
	d, _, _ := block.Release(c, l)
	if !slices.Equal(d.Free[62:], []uint8{0, 1}) || d.Free[0] != 2 || len(d.Attrs) != 0 {
		t.Error("behind Release", d)
	}
}

// calls are all that tell a block, of few() or another one like it.
var calls = map[string]func(b block.Block) (block.Block, []uint32){
	"New":        func(block.Block) (block.Block, []uint32) { c, _ := block.New(base, ""); return c, nil },
	"Own":        func(b block.Block) (block.Block, []uint32) { c, _ := block.Own(b, "n2"); return c, nil },
	"Own same":   func(b block.Block) (block.Block, []uint32) { c, _ := block.Own(b, b.Aff); return c, nil },
	"Assign 0":   func(b block.Block) (block.Block, []uint32) { c, l, _ := block.Assign(b, 0, attr(9)); return c, l },
	"Assign 3":   func(b block.Block) (block.Block, []uint32) { c, l, _ := block.Assign(b, 3, attr(9)); return c, l },
	"Assign old": func(b block.Block) (block.Block, []uint32) { c, l, _ := block.Assign(b, 3, b.Attrs[0]); return c, l },
	"AssignAt":   func(b block.Block) (block.Block, []uint32) { c, _ := block.AssignAt(b, base+8, attr(9)); return c, nil },
	"AssignAt old": func(b block.Block) (block.Block, []uint32) {
		c, _ := block.AssignAt(b, base+8, b.Attrs[0])
		return c, nil
	},
	"Release": func(b block.Block) (block.Block, []uint32) {
		c, l, _ := block.Release(b, []uint32{base + 5, base})
		return c, l
	},
	"Release none": func(b block.Block) (block.Block, []uint32) { c, l, _ := block.Release(b, nil); return c, l },
	"ReleaseHandle": func(b block.Block) (block.Block, []uint32) {
		c, l, _ := block.ReleaseHandle(b, "h1")
		return c, l
	},
	"ReleaseNode": func(b block.Block) (block.Block, []uint32) { c, l, _ := block.ReleaseNode(b, "n2"); return c, l },
	"ReleaseNode none": func(b block.Block) (block.Block, []uint32) {
		c, l, _ := block.ReleaseNode(b, "nobody")
		return c, l
	},
}

// scribble writes into all lists of b, and behind them.
func scribble(b block.Block, l []uint32) {
	for i := range b.Free {
		b.Free[i] = 77
	}
	for i := range b.Attrs {
		b.Attrs[i] = block.Attr{Handle: "x", Node: "y"}
	}
	for i := range l {
		l[i] = 99
	}
	_, _, _ = append(b.Free, 78, 79), append(b.Attrs, attr(90), attr(91)), append(l, 98, 97)
}

// roomy tells few() with room behind its lists, in which something stands.
func roomy() (block.Block, func() bool) {
	b := few()
	free := append(slices.Clone(b.Free), 1, 2, 3, 4, 5, 6, 7, 8)
	attrs := append(slices.Clone(b.Attrs), attr(30), attr(31), attr(32))
	n, m := len(b.Free), len(b.Attrs)
	keptFree, keptAttrs := slices.Clone(free), slices.Clone(attrs)
	b.Free, b.Attrs = free[:n], attrs[:m]
	return b, func() bool { return slices.Equal(free, keptFree) && slices.Equal(attrs, keptAttrs) }
}

// P15.1, P15.2: what is handed in stays as it is; what is told shares nothing with it, nor with what is told later.
func TestNothingShared(t *testing.T) {
	for what, call := range calls {
		b, untouched := roomy()
		c, l := call(b)
		want, wantList := deep(c), slices.Clone(l)
		if !untouched() || !same(b, few()) {
			t.Errorf("%s: what was handed in has changed: %v", what, b)
		}
		scribble(c, l)
		if !untouched() || !same(b, few()) {
			t.Errorf("%s: what was handed in shares memory with what is told", what)
		}
		c, l = call(b)
		if !same(c, want) || !slices.Equal(l, wantList) {
			t.Errorf("%s: what is told has changed: %v, %v", what, c, l)
		}
		scribble(b, nil)
		if !same(c, want) {
			t.Errorf("%s: what was told is kept of what was handed in", what)
		}
	}
}

// P15.3: what is written into what is told is seen nowhere else.
func TestNothingSharedByMethods(t *testing.T) {
	b := few()
	l, n := b.Given(), b.Count()
	l[0] = 7
	clear(n)
	n[attr(9)] = 5
	if !slices.Equal(b.Given(), []uint32{base, base + 5, base + 6, base + 9, base + 20, base + 63}) || len(b.Count()) != 3 || b.Count()[b.Attrs[0]] != 3 || !same(b, few()) {
		t.Error("what is told has changed", b.Given(), b.Count())
	}
}

// P15.2: a long list with many that are not given ends soon, and tells each once.
func TestReleaseOfMany(t *testing.T) {
	b, given, _ := block.Assign(must(block.New(1<<32-64, "")), 64, attr(0))
	var l []uint32
	for i := range 1 << 20 {
		l = append(l, uint32(i)*4099+1<<31)
	}
	l = slices.Concat(l, given, given)
	c, freed, e := block.Release(b, l)
	slices.Sort(freed)
	if e != api.OK || !slices.Equal(freed, given) || !c.Empty() {
		t.Error("Release of many", len(freed), e)
	}
}

func must(b block.Block, e api.Errno) block.Block {
	if e != api.OK {
		panic(e)
	}
	return b
}
