package recs_test

import (
	"encoding/binary"
	"hash/fnv"
	"math"
	"math/rand"
	"slices"
	"strings"
	"testing"

	"virgate/api"
	"virgate/cidr"
	"virgate/recs"
)

// beyond are numbers that are no place in any list.
var beyond = []int{-1, -2, math.MinInt, math.MinInt + 1, math.MaxInt, math.MaxInt - 1, 1 << 32, -1 << 32, 1025, 1 << 31}

// seeds are some at the edges, and any others.
func seeds() []uint64 {
	l := []uint64{0, 1, 2, 3, 1023, 1024, 1025, 1<<31 - 1, 1 << 31, 1<<32 - 1, 1 << 32, 1<<63 - 1, 1 << 63, 1<<63 + 1, 1<<64 - 2, 1<<64 - 1}
	chance := rand.New(rand.NewSource(13))
	for range 50 {
		l = append(l, chance.Uint64())
	}
	return l
}

// pool tells the closed pool of the net of so many bits that has a.
func pool(a uint32, bits int) recs.Pool {
	return recs.Pool{Net: cidr.Net{Addr: a &^ uint32(1<<(32-bits)-1), Bits: bits}}
}

// rightPools are pools that may be, closed ones, of all bits.
func rightPools() []recs.Pool {
	var l []recs.Pool
	chance := rand.New(rand.NewSource(14))
	for bits := 16; bits <= 26; bits++ {
		l = append(l, pool(0, bits), pool(10<<24, bits), pool(1<<31-1, bits), pool(1<<31, bits), pool(1<<32-1, bits))
		for range 20 {
			l = append(l, pool(chance.Uint32(), bits))
		}
	}
	return l
}

// wrongNets are nets of which no pool may be, of each kind.
func wrongNets() []cidr.Net {
	l := []cidr.Net{{}, {Addr: 10 << 24}, {Addr: 10 << 24, Bits: math.MaxInt}, {Addr: 10 << 24, Bits: math.MinInt}, {Addr: 10 << 24, Bits: 24 + 256}, {Addr: 10 << 24, Bits: 24 - 256}, {Addr: 10 << 24, Bits: 24 + 1<<32}}
	for bits := -40; bits <= 80; bits++ {
		if bits < 16 || bits > 26 {
			l = append(l, cidr.Net{Bits: bits}, cidr.Net{Addr: 10 << 24, Bits: bits}, cidr.Net{Addr: 1<<32 - 1, Bits: bits})
			continue
		}
		for bit := range 32 - bits {
			l = append(l, cidr.Net{Addr: 10<<24 + 1<<bit, Bits: bits})
		}
	}
	return l
}

// poolBytes tells a pool's bytes, by another writer.
func poolBytes(p recs.Pool) string {
	b := binary.BigEndian.AppendUint32([]byte("P"), p.Net.Addr)
	b = append(b, byte(p.Net.Bits), 0)
	if p.Open {
		b[6] = 1
	}
	return string(b)
}

// spoilt tells texts that are each at one byte other than s, or longer or shorter.
func spoilt(s string) []string {
	l := []string{"", s + "\x00", s + "\x01", "\x00" + s, s + s, strings.ToLower(s[:1]) + s[1:]}
	for i := range len(s) {
		l = append(l, s[:i], s[i+1:], s[:i]+"\x00"+s[i:])
		for c := range 256 {
			if byte(c) != s[i] {
				l = append(l, s[:i]+string([]byte{byte(c)})+s[i+1:])
			}
		}
	}
	return l
}

// P13.1: a pool is right whose net may be and has 16 to 26 bits, open or not.
func TestRightPool(t *testing.T) {
	for _, p := range rightPools() {
		for _, p.Open = range []bool{false, true} {
			if !recs.RightPool(p) {
				t.Errorf("RightPool(%v) is false", p)
			}
		}
	}
	for _, n := range wrongNets() {
		for _, open := range []bool{false, true} {
			if p := (recs.Pool{Net: n, Open: open}); recs.RightPool(p) {
				t.Errorf("RightPool(%v) is true", p)
			}
		}
	}
}

// P13.1: a right pool's bytes; ErrArg of any other.
func TestPutPool(t *testing.T) {
	if s, e := recs.PutPool(recs.Pool{Net: cidr.Net{Addr: 0x0a0b0c00, Bits: 24}, Open: true}); s != "P\x0a\x0b\x0c\x00\x18\x01" || e != api.OK {
		t.Errorf("PutPool = %q, %d", s, e)
	}
	for _, p := range rightPools() {
		for _, p.Open = range []bool{false, true} {
			if s, e := recs.PutPool(p); s != poolBytes(p) || e != api.OK {
				t.Errorf("PutPool(%v) = %q, %d; want %q", p, s, e, poolBytes(p))
			}
		}
	}
	for _, n := range wrongNets() {
		for _, open := range []bool{false, true} {
			p := recs.Pool{Net: n, Open: open}
			if s, e := recs.PutPool(p); s != "" || e != api.ErrArg {
				t.Errorf("PutPool(%v) = %q, %d; want %d", p, s, e, api.ErrArg)
			}
		}
	}
}

// P13.1, P13.3: what is read of a pool's bytes is the pool.
func TestReadPool(t *testing.T) {
	for _, p := range rightPools() {
		for _, p.Open = range []bool{false, true} {
			if q, e := recs.ReadPool(poolBytes(p)); q != p || e != api.OK {
				t.Errorf("ReadPool(%q) = %v, %d; want %v", poolBytes(p), q, e, p)
			}
			s, _ := recs.PutPool(p)
			if q, e := recs.ReadPool(s); q != p || e != api.OK {
				t.Errorf("what was put of %v is read as %v, %d", p, q, e)
			}
		}
	}
}

// wantReadPool holds what ReadPool tells of s, by another reader of it.
func wantReadPool(t *testing.T, s string) {
	t.Helper()
	var want recs.Pool
	e := api.ErrForm
	if len(s) == 7 && s[0] == 'P' && s[5] >= 16 && s[5] <= 26 && s[6] <= 1 {
		a := binary.BigEndian.Uint32([]byte(s[1:]))
		if a%(1<<(32-s[5])) == 0 {
			want, e = recs.Pool{Net: cidr.Net{Addr: a, Bits: int(s[5])}, Open: s[6] == 1}, api.OK
		}
	}
	if p, got := recs.ReadPool(s); p != want || got != e {
		t.Errorf("ReadPool(%.100q) = %v, %d; want %v, %d", s, p, got, want, e)
	}
}

// P13.1: ErrForm of what is not just a right pool's bytes: of bytes that are missing, too many or others, of nets that may not be or have other bits, of what is neither open nor closed.
func TestReadWrongPool(t *testing.T) {
	for _, p := range rightPools() {
		for _, s := range spoilt(poolBytes(p)) {
			wantReadPool(t, s)
		}
	}
	for bits := range 256 {
		for open := range 256 {
			wantReadPool(t, "P\x0a\x00\x00\x00"+string([]byte{byte(bits), byte(open)}))
		}
	}
	for _, s := range []string{"P", "N\x00", "N\x01", "A\x01", "A\x02", "A\x03", "\x00", "10.0.0.0/24", strings.Repeat("P", 7), strings.Repeat("\x00", 7), strings.Repeat("P", 1000)} {
		wantReadPool(t, s)
	}
	chance := rand.New(rand.NewSource(15))
	for range 3000 {
		b := make([]byte, chance.Intn(10))
		chance.Read(b)
		if len(b) > 0 {
			b[0] = 'P'
		}
		wantReadPool(t, string(b))
	}
}

// P13.1, P13.3: a node's bytes, and what is read of them.
func TestNode(t *testing.T) {
	for _, x := range []struct {
		gone bool
		s    string
	}{{false, "N\x00"}, {true, "N\x01"}} {
		if s := recs.PutNode(x.gone); s != x.s {
			t.Errorf("PutNode(%v) = %q; want %q", x.gone, s, x.s)
		}
		if gone, e := recs.ReadNode(x.s); gone != x.gone || e != api.OK {
			t.Errorf("ReadNode(%q) = %v, %d", x.s, gone, e)
		}
	}
}

// P13.1: an affinity's bytes, and what is read of them; ErrArg of a state that is not 1 to 3.
func TestAff(t *testing.T) {
	if recs.Pending != 1 || recs.Confirmed != 2 || recs.Leaving != 3 {
		t.Error("the states are", recs.Pending, recs.Confirmed, recs.Leaving)
	}
	for state, s := range map[int]string{recs.Pending: "A\x01", recs.Confirmed: "A\x02", recs.Leaving: "A\x03"} {
		if got, e := recs.PutAff(state); got != s || e != api.OK {
			t.Errorf("PutAff(%d) = %q, %d; want %q", state, got, e, s)
		}
		if got, e := recs.ReadAff(s); got != state || e != api.OK {
			t.Errorf("ReadAff(%q) = %d, %d; want %d", s, got, e, state)
		}
	}
	for _, state := range slices.Concat(beyond, []int{0, 4, 5, 255, 256, 257, 258, 259, 1<<32 + 1, 1<<32 + 2, -255, -254}) {
		if s, e := recs.PutAff(state); s != "" || e != api.ErrArg {
			t.Errorf("PutAff(%d) = %q, %d; want %d", state, s, e, api.ErrArg)
		}
	}
}

// wantReadSmall holds what ReadNode and ReadAff tell of s, by another reader of it.
func wantReadSmall(t *testing.T, s string) {
	t.Helper()
	isNode, isAff := s == "N\x00" || s == "N\x01", s == "A\x01" || s == "A\x02" || s == "A\x03"
	if gone, e := recs.ReadNode(s); (e == api.OK) != isNode || !isNode && (gone || e != api.ErrForm) {
		t.Errorf("ReadNode(%.100q) = %v, %d", s, gone, e)
	}
	if state, e := recs.ReadAff(s); (e == api.OK) != isAff || !isAff && (state != 0 || e != api.ErrForm) {
		t.Errorf("ReadAff(%.100q) = %d, %d", s, state, e)
	}
}

// P13.1: ErrForm of what is not just a node's bytes, an affinity's.
func TestReadWrongSmall(t *testing.T) {
	for a := range 256 {
		wantReadSmall(t, string([]byte{byte(a)}))
		for b := range 256 {
			wantReadSmall(t, string([]byte{byte(a), byte(b)}))
		}
	}
	for _, s := range []string{"N\x00", "N\x01", "A\x01", "A\x02", "A\x03"} {
		for _, x := range spoilt(s) {
			wantReadSmall(t, x)
		}
	}
	for _, s := range []string{"", poolBytes(pool(0, 24)), "N\x00\x00\x00", "A\x00\x00\x00\x01", "NA\x01", strings.Repeat("N\x01", 1000)} {
		wantReadSmall(t, s)
	}
}

// P13.2: how many blocks a pool has, and where each begins.
func TestBlocks(t *testing.T) {
	for _, p := range rightPools() {
		n := 1 << (26 - p.Net.Bits)
		for _, p.Open = range []bool{false, true} {
			if p.Blocks() != n {
				t.Errorf("%v has %d blocks; want %d", p, p.Blocks(), n)
			}
		}
		for k := range n {
			if a, ok := p.Block(k); a != p.Net.Addr+64*uint32(k) || !ok {
				t.Errorf("%v: Block(%d) = %d, %v", p, k, a, ok)
			}
		}
		for _, k := range append(beyond, n, n+1, 2*n, n+1<<32) {
			if a, ok := p.Block(k); a != 0 || ok {
				t.Errorf("%v: Block(%d) = %d, %v; want none", p, k, a, ok)
			}
		}
	}
}

// P13.2, P13.3: From begins at a block that the seed tells, and tells each block once.
func TestFrom(t *testing.T) {
	for _, p := range rightPools() {
		n := p.Blocks()
		for i, seed := range seeds() {
			for k := range n {
				if n > 64 && i%5 != 0 && k%37 != 0 && k != n-1 {
					continue
				}
				want := p.Net.Addr + 64*uint32((seed%uint64(n)+uint64(k))%uint64(n))
				if a, ok := p.From(seed, k); a != want || !ok {
					t.Fatalf("%v: From(%d, %d) = %d, %v; want %d", p, seed, k, a, ok, want)
				}
			}
			for _, k := range append(beyond, n, n+1, 2*n) {
				if a, ok := p.From(seed, k); a != 0 || ok {
					t.Fatalf("%v: From(%d, %d) = %d, %v; want none", p, seed, k, a, ok)
				}
			}
		}
	}
}

// P13.3: of all k, each block once.
func TestFromTellsEach(t *testing.T) {
	for _, p := range rightPools() {
		for _, seed := range []uint64{0, 5, 1<<64 - 1, recs.Seed("n1")} {
			told := map[uint32]int{}
			for k := range p.Blocks() {
				a, _ := p.From(seed, k)
				told[a]++
			}
			for k := range p.Blocks() {
				if a, _ := p.Block(k); told[a] != 1 || len(told) != p.Blocks() {
					t.Errorf("%v: from %d the block %d is told %d times, and %d in all", p, seed, a, told[a], len(told))
				}
			}
		}
	}
}

// P13.2: what is not right has no blocks.
func TestBlocksOfNone(t *testing.T) {
	for _, n := range wrongNets() {
		p := recs.Pool{Net: n, Open: true}
		if p.Blocks() != 0 {
			t.Errorf("%v has %d blocks", p, p.Blocks())
		}
		for _, k := range append(beyond, 0, 1, 2, 1023) {
			if a, ok := p.Block(k); a != 0 || ok {
				t.Errorf("%v: Block(%d) = %d, %v; want none", p, k, a, ok)
			}
			for _, seed := range []uint64{0, 5, 1<<64 - 1} {
				if a, ok := p.From(seed, k); a != 0 || ok {
					t.Errorf("%v: From(%d, %d) = %d, %v; want none", p, seed, k, a, ok)
				}
			}
		}
	}
}

// P13.2: a seed, of any bytes, held against another writer's.
func TestSeed(t *testing.T) {
	for name, want := range map[string]uint64{"": 0xCBF29CE484222325, "a": 0xAF63DC4C8601EC8C, "foobar": 0x85944171F73967E8} {
		if h := recs.Seed(name); h != want {
			t.Errorf("Seed(%q) = %X; want %X", name, h, want)
		}
	}
	l := []string{"n1", "n2", "1n", "n", "nn", "\x00", "\x00\x00", "\xff", "\u00e9", "a/b", strings.Repeat("z", 64), strings.Repeat("z", 65), strings.Repeat("\xff", 5000)}
	chance := rand.New(rand.NewSource(16))
	for range 500 {
		b := make([]byte, chance.Intn(80))
		chance.Read(b)
		l = append(l, string(b))
	}
	for _, name := range l {
		h := fnv.New64a()
		h.Write([]byte(name))
		if got := recs.Seed(name); got != h.Sum64() {
			t.Errorf("Seed(%.100q) = %X; want %X", name, got, h.Sum64())
		}
	}
}
