package handle_test

import (
	"encoding/binary"
	"maps"
	"math"
	"math/rand"
	"slices"
	"strings"
	"testing"

	"virgate/api"
	"virgate/handle"
)

const (
	base = 10 << 24
	last = 1<<32 - 64 // the last block that there is
)

// wrongNumbers are no numbers that may be counted in a block.
var wrongNumbers = []int{-1, -2, -65535, -65536, math.MinInt, math.MinInt + 1, 65536, 65537, 1 << 17, 1 << 32, 1<<32 + 5, -1<<32 + 5, math.MaxInt, math.MaxInt - 1}

// numbers are some that may be counted in a block.
var numbers = []int{0, 1, 2, 3, 63, 64, 65, 255, 256, 257, 4096, 32767, 32768, 65534, 65535}

// counted is a handle written otherwise: how many there are in each block that has some.
type counted map[uint32]int

// handle tells the handle of c.
func (c counted) handle() handle.Handle {
	var h handle.Handle
	for _, b := range slices.Sorted(maps.Keys(c)) {
		h.Counts = append(h.Counts, handle.Count{Block: b, N: c[b]})
	}
	return h
}

// with tells c with n in the block of a.
func (c counted) with(a uint32, n int) counted {
	d := maps.Clone(c)
	delete(d, a/64*64)
	if n > 0 {
		d[a/64*64] = n
	}
	return d
}

// many tells a handle of k Counts, of one address each, of every other block from base on.
func many(k int) counted {
	c := counted{}
	for i := range k {
		c[base+uint32(i)*128] = 1
	}
	return c
}

// some are handles at the edges, and any others.
func some() []counted {
	chance := rand.New(rand.NewSource(17))
	l := []counted{{}, {0: 1}, {0: 65535}, {last: 1}, {last: 65535}, {0: 1, last: 2}, {base: 3, base + 64: 4, base + 192: 5}, {1<<31 - 64: 7, 1 << 31: 8}, many(4095), many(4096)}
	for range 60 {
		c := counted{}
		for range chance.Intn(12) {
			c[base+64*uint32(chance.Intn(20))] = 1 + chance.Intn(70)
		}
		for range chance.Intn(6) {
			c[chance.Uint32()&^63] = 1 + chance.Intn(65535)
		}
		l = append(l, c)
	}
	return l
}

// around tells addresses of blocks that c has, of others beside them, and of any.
func (c counted) around(chance *rand.Rand) []uint32 {
	l := []uint32{0, 63, 64, last - 1, last, last + 63, base, base + 1, base + 63, base + 64, base + 127, base + 128}
	for _, b := range slices.Sorted(maps.Keys(c)) {
		if len(l) < 50 {
			l = append(l, b, b+63, b+uint32(chance.Intn(64)), b-1, b+64)
		}
	}
	return append(l, chance.Uint32(), chance.Uint32())
}

// wrongs are handles that are not right, each in one thing.
func wrongs() map[string]handle.Handle {
	of := func(l ...handle.Count) handle.Handle { return handle.Handle{Counts: l} }
	return map[string]handle.Handle{
		"of none":           of(handle.Count{Block: base}),
		"below none":        of(handle.Count{Block: base, N: -1}),
		"least number":      of(handle.Count{Block: base, N: math.MinInt}),
		"too many there":    of(handle.Count{Block: base, N: 65536}),
		"greatest number":   of(handle.Count{Block: base, N: math.MaxInt}),
		"wrapped round":     of(handle.Count{Block: base, N: 1<<32 + 1}),
		"not first":         of(handle.Count{Block: base + 1, N: 1}),
		"half of a block":   of(handle.Count{Block: base + 32, N: 1}),
		"last address":      of(handle.Count{Block: 1<<32 - 1, N: 1}),
		"falls":             of(handle.Count{Block: base + 64, N: 1}, handle.Count{Block: base, N: 1}),
		"twice":             of(handle.Count{Block: base, N: 1}, handle.Count{Block: base, N: 1}),
		"falls at the end":  of(handle.Count{Block: 64, N: 1}, handle.Count{Block: 192, N: 1}, handle.Count{Block: 128, N: 1}),
		"falls as unsigned": of(handle.Count{Block: 1 << 31, N: 1}, handle.Count{Block: 64, N: 1}),
		"second of none":    of(handle.Count{Block: 64, N: 1}, handle.Count{Block: 128}),
		"second not first":  of(handle.Count{Block: 64, N: 1}, handle.Count{Block: 129, N: 1}),
		"one too many":      many(4097).handle(),
		"far too many":      many(70000).handle(),
		"empty ones":        of(make([]handle.Count, 3)...),
	}
}

func isNil(h handle.Handle) bool {
	return h.Counts == nil
}

func same(a, b handle.Handle) bool {
	return slices.Equal(a.Counts, b.Counts)
}

// show tells of long handles the beginning alone.
func show(h handle.Handle) []handle.Count {
	return h.Counts[:min(len(h.Counts), 8)]
}

// P17.1: a handle is right with at most 4096 Counts, of rising first addresses of blocks, each 1 to 65535.
func TestRight(t *testing.T) {
	for _, c := range some() {
		if !handle.Right(c.handle()) {
			t.Errorf("Right(%v) is false", show(c.handle()))
		}
	}
	for what, h := range wrongs() {
		if handle.Right(h) {
			t.Errorf("%s: Right(%v) is true", what, show(h))
		}
	}
	for _, n := range wrongNumbers {
		if handle.Right(handle.Handle{Counts: []handle.Count{{Block: base, N: n}}}) {
			t.Errorf("Right of %d in a block", n)
		}
	}
	for a := range uint32(64) {
		if h := (handle.Handle{Counts: []handle.Count{{Block: base + a, N: 1}}}); handle.Right(h) != (a == 0) {
			t.Errorf("Right(%v) = %v", h, handle.Right(h))
		}
	}
}

// P17.1: Of the block that an address is of, and all together.
func TestOf(t *testing.T) {
	chance := rand.New(rand.NewSource(18))
	for _, c := range some() {
		h := c.handle()
		total := 0
		for _, n := range c {
			total += n
		}
		if h.Total() != total {
			t.Errorf("Total of %v is %d; want %d", show(h), h.Total(), total)
		}
		for _, a := range c.around(chance) {
			if got := h.Of(a); got != c[a/64*64] {
				t.Errorf("%v.Of(%d) = %d; want %d", show(h), a, got, c[a/64*64])
			}
		}
	}
	h := many(4096).handle()
	for i := range uint32(4096 * 128) {
		if want := int(1 - i/64%2); h.Of(base+i) != want {
			t.Fatalf("Of(%d) = %d; want %d", base+i, h.Of(base+i), want)
		}
	}
}

// P17.1: of a handle whose Counts do not rise the N of a block is found wherever it stands.
func TestOfWrong(t *testing.T) {
	var l []handle.Count
	for k := range 50 {
		l = append(l, handle.Count{Block: uint32(64 * (50 - k)), N: k - 5})
	}
	h := handle.Handle{Counts: l}
	for k := range 50 {
		if got := h.Of(uint32(64*(50-k) + k)); got != k-5 {
			t.Errorf("Of(%d) = %d; want %d", 64*(50-k)+k, got, k-5)
		}
	}
	if h.Of(0) != 0 || h.Of(64*51) != 0 || h.Total() != 49*25-250 {
		t.Error("Of, Total", h.Of(0), h.Of(64*51), h.Total())
	}
	for what, h := range wrongs() {
		for _, a := range []uint32{0, base, base + 64, last, 1<<32 - 1} {
			n := h.Of(a)
			if n != 0 && !slices.Contains(h.Counts, handle.Count{Block: a / 64 * 64, N: n}) {
				t.Errorf("%s: Of(%d) = %d, which no Count has", what, a, n)
			}
		}
		h.Total()
	}
}

// wantHandle holds what is told against what is to be told.
func wantHandle(t *testing.T, what string, got handle.Handle, e api.Errno, want handle.Handle, wantErr api.Errno) {
	t.Helper()
	if wantErr != api.OK {
		want = handle.Handle{}
	}
	if !same(got, want) || e != wantErr || e != api.OK && !isNil(got) {
		t.Errorf("%s: %v, %d; want %v, %d", what, show(got), e, show(want), wantErr)
	}
	if e == api.OK && !handle.Right(got) {
		t.Errorf("%s: %v is not right", what, show(got))
	}
}

// set tells what Set is to tell.
func (c counted) set(a uint32, n int) (handle.Handle, api.Errno) {
	d := c.with(a, n)
	switch {
	case n < 0 || n > 65535:
		return handle.Handle{}, api.ErrArg
	case len(d) > 4096:
		return handle.Handle{}, api.ErrFull
	}
	return d.handle(), api.OK
}

// P17.1: Set, Add and Sub, of all that may be, and of what may not.
func TestChanges(t *testing.T) {
	chance := rand.New(rand.NewSource(19))
	for _, c := range some() {
		h := c.handle()
		for _, a := range c.around(chance) {
			l := append(slices.Clone(wrongNumbers[:3]), 65536, math.MaxInt, numbers[chance.Intn(len(numbers))], chance.Intn(65536), chance.Intn(5), 0, 1, 65535)
			for _, n := range l {
				is := c[a/64*64]
				want, e := c.set(a, n)
				got, code := handle.Set(h, a, n)
				wantHandle(t, "Set", got, code, want, e)

				got, code = handle.Add(h, a, n)
				if e != api.ErrArg && is+n > 65535 {
					want, e = handle.Handle{}, api.ErrFull
				} else if e != api.ErrArg {
					want, e = c.set(a, is+n)
				}
				wantHandle(t, "Add", got, code, want, e)

				got, code = handle.Sub(h, a, n)
				want, e = handle.Handle{}, api.ErrArg
				if n >= 0 && n <= 65535 {
					want, e = c.set(a, max(is-n, 0))
				}
				wantHandle(t, "Sub", got, code, want, e)
			}
		}
		if !same(h, c.handle()) {
			t.Error("what was handed in has changed", show(h))
		}
	}
}

// P17.1: ErrArg of all numbers that may not be, ahead of ErrFull; none of all that may be.
func TestNumbers(t *testing.T) {
	calls := map[string]func(handle.Handle, uint32, int) (handle.Handle, api.Errno){"Set": handle.Set, "Add": handle.Add, "Sub": handle.Sub}
	for what, call := range calls {
		for _, h := range []handle.Handle{{}, counted{base: 65535}.handle(), many(4096).handle()} {
			for _, n := range wrongNumbers {
				for _, a := range []uint32{base, base + 64, last} {
					if g, e := call(h, a, n); !isNil(g) || e != api.ErrArg {
						t.Errorf("%s of %d: %v, %d", what, n, show(g), e)
					}
				}
			}
		}
		for _, n := range numbers {
			g, e := call(handle.Handle{}, base+5, n)
			want := counted{}.with(base, n)
			if what == "Sub" {
				want = counted{}
			}
			wantHandle(t, what, g, e, want.handle(), api.OK)
		}
		for wrong, h := range wrongs() {
			for _, n := range []int{0, 1, 65535, 65536, -1} {
				if g, e := call(h, base, n); !isNil(g) || e != api.ErrArg {
					t.Errorf("%s of a wrong one (%s): %v, %d", what, wrong, show(g), e)
				}
			}
		}
	}
}

// P17.1: ErrFull of one Count too many, and of more than 65535 in a block; what needs no new Count is done.
func TestFull(t *testing.T) {
	full := many(4096)
	h := full.handle()
	for _, a := range []uint32{0, base + 64, base + 127, last, base - 1} {
		for _, n := range []int{1, 2, 65535} {
			if g, e := handle.Set(h, a, n); !isNil(g) || e != api.ErrFull {
				t.Errorf("Set(%d, %d): %v, %d", a, n, show(g), e)
			}
			if g, e := handle.Add(h, a, n); !isNil(g) || e != api.ErrFull {
				t.Errorf("Add(%d, %d): %v, %d", a, n, show(g), e)
			}
		}
		g, e := handle.Set(h, a, 0)
		wantHandle(t, "Set of none", g, e, h, api.OK)
		g, e = handle.Add(h, a, 0)
		wantHandle(t, "Add of none", g, e, h, api.OK)
		g, e = handle.Sub(h, a, 7)
		wantHandle(t, "Sub where there is none", g, e, h, api.OK)
	}
	g, e := handle.Add(h, base+128+7, 65534)
	wantHandle(t, "Add up to all", g, e, full.with(base+128, 65535).handle(), api.OK)
	if x, e := handle.Add(g, base+128, 1); !isNil(x) || e != api.ErrFull {
		t.Error("Add past all", show(x), e)
	}
	g, e = handle.Sub(g, base+128+63, 65534)
	wantHandle(t, "Sub of all but one", g, e, h, api.OK)
	g, e = handle.Sub(h, base, 1)
	wantHandle(t, "Sub of the last one", g, e, full.with(base, 0).handle(), api.OK)
	g, e = handle.Set(g, last, 9)
	wantHandle(t, "Set where there is room again", g, e, full.with(base, 0).with(last, 9).handle(), api.OK)
}

// P17.3: Sub of what was Added is the handle again; nothing else changes.
func TestAddAndSub(t *testing.T) {
	chance := rand.New(rand.NewSource(20))
	for _, c := range some() {
		h := c.handle()
		for _, a := range c.around(chance) {
			n := chance.Intn(400)
			more, e := handle.Add(h, a, n)
			if e != api.OK {
				continue
			}
			if more.Total() != h.Total()+n || more.Of(a) != h.Of(a)+n {
				t.Errorf("behind Add of %d: %d, %d", n, more.Total(), more.Of(a))
			}
			again, e := handle.Sub(more, a, n)
			wantHandle(t, "Sub of what was Added", again, e, h, api.OK)
		}
	}
}

// P17.1: in a long walk the handle is what another writer makes of it.
func TestWalk(t *testing.T) {
	chance := rand.New(rand.NewSource(21))
	for range 10 {
		c, h := counted{}, handle.Handle{}
		for range 500 {
			a, n := base+uint32(chance.Intn(64*12)), chance.Intn(9)
			is := c[a/64*64]
			var e api.Errno
			switch chance.Intn(5) {
			case 0:
				h, e = handle.Set(h, a, n)
				c = c.with(a, n)
			case 1, 2:
				h, e = handle.Add(h, a, n)
				c = c.with(a, is+n)
			default:
				h, e = handle.Sub(h, a, n)
				c = c.with(a, max(is-n, 0))
			}
			wantHandle(t, "walk", h, e, c.handle(), api.OK)
		}
	}
}

// Example 1 of the chapter.
func TestExample(t *testing.T) {
	h, _ := handle.Add(handle.Handle{}, base+9, 3)
	if h.Of(base) != 3 || h.Total() != 3 {
		t.Error("Add 3", h)
	}
	if h, e := handle.Sub(h, base+60, 5); e != api.OK || len(h.Counts) != 0 || h.Total() != 0 {
		t.Error("Sub 5", h, e)
	}
}

// written tells a handle's bytes, by another writer, right or not; of its numbers the last bytes.
func written(h handle.Handle) string {
	s := binary.BigEndian.AppendUint16([]byte("H"), uint16(len(h.Counts)))
	for _, c := range h.Counts {
		s = binary.BigEndian.AppendUint32(s, c.Block)
		s = binary.BigEndian.AppendUint16(s, uint16(c.N))
	}
	return string(s)
}

// parsed tells the handle whose bytes s is, by another reader, and whether it is one's.
func parsed(s string) (handle.Handle, bool) {
	if len(s) < 3 || s[0] != 'H' {
		return handle.Handle{}, false
	}
	k := int(s[1])<<8 + int(s[2])
	if k > 4096 || len(s) != 3+6*k {
		return handle.Handle{}, false
	}
	var h handle.Handle
	ahead := int64(-1)
	for s = s[3:]; s != ""; s = s[6:] {
		b, n := binary.BigEndian.Uint32([]byte(s)), int(s[4])<<8+int(s[5])
		if int64(b) <= ahead || b%64 != 0 || n == 0 {
			return handle.Handle{}, false
		}
		ahead = int64(b)
		h.Counts = append(h.Counts, handle.Count{Block: b, N: n})
	}
	return h, true
}

// wantRead holds what Read tells of s against another reader.
func wantRead(t *testing.T, s string) bool {
	t.Helper()
	want, ok := parsed(s)
	e := api.ErrForm
	if ok {
		e = api.OK
	}
	h, got := handle.Read(s)
	if !same(h, want) || got != e || !ok && !isNil(h) {
		t.Fatalf("Read(%.200q) = %v, %d; want %v, %d", s, show(h), got, show(want), e)
	}
	if again, _ := handle.Put(h); ok && again != s {
		t.Fatalf("Put of what was read of %.200q is %.200q", s, again)
	}
	return ok
}

// P17.2, P17.3: a right handle's bytes, and what is read of them.
func TestBytes(t *testing.T) {
	h := handle.Handle{Counts: []handle.Count{{Block: 0x0a0b0c40, N: 2}, {Block: 0xffffffc0, N: 0xfffe}}}
	if s, e := handle.Put(h); s != "H\x00\x02\x0a\x0b\x0c\x40\x00\x02\xff\xff\xff\xc0\xff\xfe" || e != api.OK {
		t.Errorf("Put = %q, %d", s, e)
	}
	if s, e := handle.Put(handle.Handle{}); s != "H\x00\x00" || e != api.OK {
		t.Errorf("Put of nothing = %q, %d", s, e)
	}
	for _, c := range some() {
		h := c.handle()
		s, e := handle.Put(h)
		if s != written(h) || e != api.OK {
			t.Errorf("Put(%v) = %.200q, %d; want %.200q", show(h), s, e, written(h))
		}
		if !wantRead(t, written(h)) {
			t.Errorf("%v is not read", show(h))
		}
		if g, e := handle.Read(s); !same(g, h) || e != api.OK || !handle.Right(g) {
			t.Errorf("what was put of %v is read as %v, %d", show(h), show(g), e)
		}
	}
}

// P17.2: ErrArg of a handle that is not right; ErrForm of what would be its bytes.
func TestWrongBytes(t *testing.T) {
	for what, h := range wrongs() {
		if s, e := handle.Put(h); s != "" || e != api.ErrArg {
			t.Errorf("%s: Put(%v) = %.200q, %d", what, show(h), s, e)
		}
		wantRead(t, written(h))
	}
	for _, h := range []handle.Handle{wrongs()["of none"], wrongs()["not first"], wrongs()["twice"], wrongs()["falls"], wrongs()["one too many"]} {
		if wantRead(t, written(h)) {
			t.Errorf("%v is read", show(h))
		}
	}
}

// P17.2: ErrForm of what is cut off anywhere, is too long, or begins otherwise.
func TestReadOfParts(t *testing.T) {
	for _, c := range some() {
		s := written(c.handle())
		for i := range min(len(s), 300) {
			if wantRead(t, s[:i]) || wantRead(t, s[len(s)-i:]) {
				t.Errorf("%.200q is read, cut off at %d", s, i)
			}
		}
		for _, x := range []string{s + "\x00", s + "x", s + s, s + "\x00\x00\x00\x40\x00\x01", s + "\xff\xff\xff\xc0\x00\x01", "H" + s, "\x00" + s, "h" + s[1:], "B" + s[1:], "N" + s[1:], "\x00" + s[1:], s[1:]} {
			if wantRead(t, x) {
				t.Errorf("%.200q is read", x)
			}
		}
	}
	for _, x := range []string{"", "H", "H\x00", "N\x00", "A\x02", "L", "P\x0a\x00\x00\x00\x18\x01", "H\x10\x01", "H\xff\xff", "H\xff\xff" + strings.Repeat("\x00", 1<<17), "H\x00\x00" + strings.Repeat("\x00", 1<<17), strings.Repeat("H", 1<<17)} {
		if wantRead(t, x) {
			t.Errorf("%.200q is read", x)
		}
	}
}

// P17.2, P17.3: of bytes of which one is another one, left out, or put in, that handle is read that has just these, if there is one.
func TestReadAmongOthers(t *testing.T) {
	chance := rand.New(rand.NewSource(22))
	l := slices.DeleteFunc(some(), func(c counted) bool { return len(c) > 100 || len(c) == 0 })
	read := 0
	for range 20000 {
		s := written(l[chance.Intn(len(l))].handle())
		i, x := chance.Intn(len(s)), string([]byte{byte(chance.Intn(256))})
		if chance.Intn(2) == 0 {
			x = string([]byte{byte(64 * chance.Intn(4))})
		}
		switch chance.Intn(4) {
		case 0, 1:
			s = s[:i] + x + s[i+1:]
		case 2:
			s = s[:i] + s[i+1:]
		default:
			s = s[:i] + x + s[i:]
		}
		if wantRead(t, s) {
			read++
		}
	}
	if read < 500 || read > 19500 {
		t.Errorf("of 20000 texts %d are read: too few of the one kind", read)
	}
}

// P17.1, P17.2: what is handed in stays as it is, and shares no memory with what is told.
func TestNothingShared(t *testing.T) {
	want := counted{base: 3, base + 128: 1, base + 256: 5}.handle()
	calls := map[string]func(handle.Handle) (handle.Handle, api.Errno){
		"Add":          func(h handle.Handle) (handle.Handle, api.Errno) { return handle.Add(h, base+64, 2) },
		"Add to one":   func(h handle.Handle) (handle.Handle, api.Errno) { return handle.Add(h, base+128, 2) },
		"Add behind":   func(h handle.Handle) (handle.Handle, api.Errno) { return handle.Add(h, base+512, 2) },
		"Add none":     func(h handle.Handle) (handle.Handle, api.Errno) { return handle.Add(h, base+512, 0) },
		"Sub":          func(h handle.Handle) (handle.Handle, api.Errno) { return handle.Sub(h, base, 2) },
		"Sub all":      func(h handle.Handle) (handle.Handle, api.Errno) { return handle.Sub(h, base, 3) },
		"Sub the last": func(h handle.Handle) (handle.Handle, api.Errno) { return handle.Sub(h, base+256, 9) },
		"Sub none":     func(h handle.Handle) (handle.Handle, api.Errno) { return handle.Sub(h, base, 0) },
		"Set":          func(h handle.Handle) (handle.Handle, api.Errno) { return handle.Set(h, base+128, 7) },
		"Set to none":  func(h handle.Handle) (handle.Handle, api.Errno) { return handle.Set(h, base+128, 0) },
		"Set as it is": func(h handle.Handle) (handle.Handle, api.Errno) { return handle.Set(h, base+128, 1) },
	}
	for what, call := range calls {
		// There is room behind the list that is handed in, in which something stands.
		room := append(slices.Clone(want.Counts), handle.Count{Block: 1, N: 2}, handle.Count{Block: 3, N: 4})
		kept := slices.Clone(room)
		h := handle.Handle{Counts: room[:3]}
		g, _ := call(h)
		if !slices.Equal(room, kept) {
			t.Errorf("%s: what was handed in has changed: %v", what, room)
		}
		told := slices.Clone(g.Counts)
		for i := range g.Counts {
			g.Counts[i] = handle.Count{Block: 77, N: 77}
		}
		_ = append(g.Counts, handle.Count{Block: 78}, handle.Count{Block: 79})
		if !slices.Equal(room, kept) {
			t.Errorf("%s: what is told shares memory with what was handed in", what)
		}
		if x, _ := call(h); !slices.Equal(x.Counts, told) {
			t.Errorf("%s: what is told has changed: %v", what, x)
		}
	}
	s := written(want)
	g, _ := handle.Read(s)
	g.Counts[0].N = 50
	if g, _ := handle.Read(s); !same(g, want) {
		t.Error("Read tells another handle", g)
	}
	handle.Put(want)
	want.Of(base)
	want.Total()
	if !same(want, counted{base: 3, base + 128: 1, base + 256: 5}.handle()) {
		t.Error("what was handed in has changed", want)
	}
}
