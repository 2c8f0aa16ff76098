package image_test

import (
	"encoding/binary"
	"math/rand"
	"slices"
	"strconv"
	"strings"
	"testing"

	"virgate/api"
	"virgate/block"
	"virgate/image"
)

const base = 10 << 24

// attr tells the k-th of many attributes, with names of all lengths.
func attr(k int) block.Attr {
	return block.Attr{Handle: strings.Repeat("h", k%64) + strconv.Itoa(k%10), Node: "n" + strconv.Itoa(k)}
}

// given tells the block of addr in which slot i is given under attr(l[i]), if l has so many; what is free stands in any order.
func given(addr uint32, aff string, chance *rand.Rand, l []int) block.Block {
	b := block.Block{Addr: addr, Aff: aff}
	for i, k := range l {
		n := slices.Index(b.Attrs, attr(k))
		if n < 0 {
			n = len(b.Attrs)
			b.Attrs = append(b.Attrs, attr(k))
		}
		b.Slots[i] = uint8(n + 1)
	}
	for _, i := range chance.Perm(64) {
		if i >= len(l) {
			b.Free = append(b.Free, uint8(i))
		}
	}
	return b
}

// blocks are some at the edges, and many others.
func blocks() []block.Block {
	chance := rand.New(rand.NewSource(16))
	long := strings.Repeat("z", 64)
	unlike := make([]int, 64)
	for i := range unlike {
		unlike[i] = i
	}
	l := []block.Block{
		given(0, "", chance, nil),
		given(1<<32-64, "n", chance, nil),
		given(base, long, chance, unlike),
		given(base, "", chance, make([]int, 64)),
		given(base, "n1", chance, unlike[:63]),
		given(base, "n1", chance, unlike[:1]),
	}
	// The longest one that there is.
	b := given(base, long, chance, unlike)
	for k := range b.Attrs {
		b.Attrs[k] = block.Attr{Handle: long, Node: long[2:] + strconv.Itoa(10+k)}
	}
	l = append(l, b)
	for range 80 {
		some := make([]int, chance.Intn(65))
		kinds := 1 + chance.Intn(64)
		for i := range some {
			some[i] = chance.Intn(kinds)
		}
		l = append(l, given(chance.Uint32()&^63, []string{"", "n1", "a.b-c_9"}[chance.Intn(3)], chance, some))
	}
	return l
}

// written tells a block's bytes, by another writer, right or not; its lists have at most 255 parts.
func written(b block.Block) string {
	s := binary.BigEndian.AppendUint32([]byte("B"), b.Addr)
	text := func(x string) { s = append(append(s, byte(len(x))), x...) }
	text(b.Aff)
	s = append(s, byte(len(b.Attrs)))
	for _, a := range b.Attrs {
		text(a.Handle)
		text(a.Node)
	}
	s = append(s, b.Slots[:]...)
	return string(append(append(s, byte(len(b.Free))), b.Free...))
}

// wrongBlocks are not right: each in one thing.
func wrongBlocks() []block.Block {
	l := []block.Block{{}, {Addr: base, Aff: "n1"}}
	for _, change := range []func(b *block.Block){
		func(b *block.Block) { b.Addr++ },
		func(b *block.Block) { b.Addr += 32 },
		func(b *block.Block) { b.Aff = "a b" },
		func(b *block.Block) { b.Aff = strings.Repeat("z", 65) },
		func(b *block.Block) { b.Attrs[1].Handle = "" },
		func(b *block.Block) { b.Attrs[1].Handle = "a/b" },
		func(b *block.Block) { b.Attrs[1].Node = "" },
		func(b *block.Block) { b.Attrs[1].Node = strings.Repeat("z", 65) },
		func(b *block.Block) { b.Attrs[0] = b.Attrs[1] },
		func(b *block.Block) { b.Attrs = b.Attrs[:1] },
		func(b *block.Block) { b.Attrs = append(b.Attrs, attr(60)) },
		func(b *block.Block) { b.Attrs = append(b.Attrs, make([]block.Attr, 100)...) },
		func(b *block.Block) { b.Slots[2] = 3 },
		func(b *block.Block) { b.Slots[2] = 255 },
		func(b *block.Block) { b.Slots[2] = 0 },
		func(b *block.Block) { b.Slots[30] = 1 },
		func(b *block.Block) { b.Free = nil },
		func(b *block.Block) { b.Free = b.Free[1:] },
		func(b *block.Block) { b.Free[0] = b.Free[1] },
		func(b *block.Block) { b.Free[0] = 2 },
		func(b *block.Block) { b.Free[0] = 64 },
		func(b *block.Block) { b.Free = append(b.Free, b.Free[0]) },
		func(b *block.Block) { b.Free = append(b.Free, 200) },
	} {
		b := given(base, "n1", rand.New(rand.NewSource(17)), []int{1, 2, 1, 2, 2})
		change(&b)
		l = append(l, b)
	}
	return l
}

// P16.1: a right block's bytes, and how many these are.
func TestPut(t *testing.T) {
	for _, b := range blocks() {
		want := written(b)
		if s, e := image.Put(b); s != want || e != api.OK {
			t.Errorf("Put(%v) = %q, %d; want %q", b, s, e, want)
		}
		if image.Size(b) != len(want) {
			t.Errorf("Size(%v) = %d; want %d", b, image.Size(b), len(want))
		}
	}
}

// P16.1: a block's bytes, written out.
func TestPutOfOne(t *testing.T) {
	b, _ := block.New(0x0a0b0c40, "n1")
	b, _, _ = block.Assign(b, 2, block.Attr{Handle: "hh", Node: "n1"})
	b, _ = block.AssignAt(b, 0x0a0b0c40+5, block.Attr{Handle: "x", Node: "n22"})
	want := "B\x0a\x0b\x0c\x40\x02n1\x02\x02hh\x02n1\x01x\x03n22\x01\x01\x00\x00\x00\x02" + strings.Repeat("\x00", 58) + "\x3d\x02\x03\x04"
	for i := 6; i < 64; i++ {
		want += string(rune(i))
	}
	if s, e := image.Put(b); s != want || e != api.OK || image.Size(b) != len(want) {
		t.Errorf("Put = %q, %d; Size %d; want %q", s, e, image.Size(b), want)
	}
}

// Example 1 of the chapter.
func TestExample(t *testing.T) {
	b, _ := block.New(base, "")
	if s, e := image.Put(b); len(s) != 136 || e != api.OK || image.Size(b) != 136 {
		t.Error("an empty block of nobody has bytes", len(s), e, image.Size(b))
	}
}

// P16.1: ErrArg of a block that is not right, and it has no bytes; ErrForm of what would be these.
func TestWrongBlocks(t *testing.T) {
	for _, b := range wrongBlocks() {
		if s, e := image.Put(b); s != "" || e != api.ErrArg || image.Size(b) != 0 {
			t.Errorf("Put(%v) = %q, %d; Size %d", b, s, e, image.Size(b))
		}
		if c, e := image.Read(written(b)); !block.Same(c, block.Block{}) || e != api.ErrForm {
			t.Errorf("Read(%q) = %v, %d", written(b), c, e)
		}
	}
	b := given(base, "", rand.New(rand.NewSource(18)), nil)
	b.Free = make([]uint8, 100000)
	if s, e := image.Put(b); s != "" || e != api.ErrArg || image.Size(b) != 0 {
		t.Error("Put of much that is free", len(s), e)
	}
}

// P16.1, P16.2: what is read of a block's bytes is the block, and it is right.
func TestRead(t *testing.T) {
	for _, b := range blocks() {
		c, e := image.Read(written(b))
		if !block.Same(c, b) || e != api.OK || !block.Right(c) {
			t.Errorf("Read(%q) = %v, %d; want %v", written(b), c, e, b)
		}
		s, _ := image.Put(b)
		if c, e := image.Read(s); !block.Same(c, b) || e != api.OK {
			t.Errorf("what was put of %v is read as %v, %d", b, c, e)
		}
	}
}

// cursor is another reader of bytes: what is missing is read as nothing, and makes it short.
type cursor struct {
	s     string
	short bool
}

func (c *cursor) bytes(n int) string {
	if n > len(c.s) {
		c.s, c.short = "", true
		return strings.Repeat("\x00", n)
	}
	told := c.s[:n]
	c.s = c.s[n:]
	return told
}

func (c *cursor) number() int {
	return int(c.bytes(1)[0])
}

func (c *cursor) text() string {
	return c.bytes(c.number())
}

// parsed tells the block whose bytes s is, and whether it is one's.
func parsed(s string) (block.Block, bool) {
	c := &cursor{s: s}
	start := c.bytes(1)
	b := block.Block{Addr: binary.BigEndian.Uint32([]byte(c.bytes(4))), Aff: c.text()}
	for n := c.number(); n > 0; n-- {
		handle := c.text()
		b.Attrs = append(b.Attrs, block.Attr{Handle: handle, Node: c.text()})
	}
	copy(b.Slots[:], c.bytes(64))
	b.Free = []byte(c.text())
	if start != "B" || c.short || c.s != "" || !block.Right(b) {
		return block.Block{}, false
	}
	return b, true
}

// wantRead holds what Read tells of s against another reader.
func wantRead(t *testing.T, s string) bool {
	t.Helper()
	want, ok := parsed(s)
	e := api.ErrForm
	if ok {
		e = api.OK
	}
	b, got := image.Read(s)
	if !block.Same(b, want) || got != e {
		t.Fatalf("Read(%.400q) = %v, %d; want %v, %d", s, b, got, want, e)
	}
	if again, _ := image.Put(b); ok && again != s {
		t.Fatalf("Put of what was read of %q is %q", s, again)
	}
	return ok
}

// P16.1: ErrForm of what is cut off anywhere, of what is too long, of another beginning.
func TestReadOfParts(t *testing.T) {
	for _, b := range blocks()[:30] {
		s := written(b)
		for i := range len(s) {
			if wantRead(t, s[:i]) || wantRead(t, s[i+1:]) {
				t.Errorf("%q is read, cut off at %d", s, i)
			}
		}
		for _, x := range []string{s + "\x00", s + "x", s + s, "B" + s, "\x00" + s, "b" + s[1:], "P" + s[1:], "\x00" + s[1:], s[1:]} {
			if wantRead(t, x) {
				t.Errorf("%q is read", x)
			}
		}
	}
	for _, x := range []string{"", "B", "P\x0a\x00\x00\x00\x18\x01", "N\x00", "A\x02", "L", strings.Repeat("B", 136), strings.Repeat("\x00", 136), "B" + strings.Repeat("\xff", 1<<17), "B" + strings.Repeat("\x00", 1<<17)} {
		if wantRead(t, x) {
			t.Errorf("%.200q is read", x)
		}
	}
}

// P16.1, P16.2: of bytes of which any one is another one, left out, or put in, that block is read that has just these; mostly none.
func TestReadAmongOthers(t *testing.T) {
	chance := rand.New(rand.NewSource(19))
	read := 0
	l := blocks()
	for range 20000 {
		s := written(l[chance.Intn(len(l))])
		i, c := chance.Intn(len(s)), string([]byte{byte(chance.Intn(256))})
		if chance.Intn(2) == 0 {
			c = string([]byte{byte(chance.Intn(70))})
		}
		switch chance.Intn(5) {
		case 0, 1:
			s = s[:i] + c + s[i+1:]
		case 2:
			s = s[:i] + s[i+1:]
		case 3:
			s = s[:i] + c + s[i:]
		default:
			// Two bytes in each other's place, which mostly leaves a block.
			b := []byte(s)
			j := chance.Intn(len(s))
			b[i], b[j] = b[j], b[i]
			s = string(b)
		}
		if wantRead(t, s) {
			read++
		}
	}
	if read < 100 || read > 19900 {
		t.Errorf("of 20000 texts %d are read: too few of the one kind", read)
	}
}

// P16.2: two blocks that are not the same have not the same bytes.
func TestUnlike(t *testing.T) {
	l := blocks()
	for i, a := range l {
		for _, b := range l[:i] {
			s, _ := image.Put(a)
			x, _ := image.Put(b)
			if (s == x) != block.Same(a, b) {
				t.Errorf("%v and %v have the bytes %q and %q", a, b, s, x)
			}
		}
	}
}

// P16.1: what is written into a block that was read, or behind its lists, is seen nowhere else; a block that is put stays as it is.
func TestNothingShared(t *testing.T) {
	want := given(base, "n1", rand.New(rand.NewSource(20)), []int{1, 2, 1, 2, 2})
	s := written(want)
	b, _ := image.Read(s)
	for i := range b.Free {
		b.Free[i] = 77
	}
	for k := range b.Attrs {
		b.Attrs[k] = attr(40)
	}
	b.Free, b.Attrs = append(b.Free, 78), append(b.Attrs, attr(41))
	if c, e := image.Read(s); !block.Same(c, want) || e != api.OK || s != written(want) {
		t.Errorf("Read tells %v, %d; want %v", c, e, want)
	}
	c := given(base, "n1", rand.New(rand.NewSource(20)), []int{1, 2, 1, 2, 2})
	image.Put(c)
	image.Size(c)
	if !block.Same(c, want) {
		t.Error("Put changes its block", c)
	}
}
