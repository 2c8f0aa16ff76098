package sum_test

import (
	"bytes"
	"hash/crc32"
	"math/rand"
	"testing"

	"virgate/sum"
)

// slow is the state behind b, bit by bit, as its word says.
func slow(state uint32, b []byte) uint32 {
	for _, c := range b {
		state ^= uint32(c)
		for range 8 {
			low := state % 2
			state /= 2
			if low == 1 {
				state ^= 0x82F63B78
			}
		}
	}
	return state
}

// samples are lists of all lengths up to 80, of noughts, of ones, and of any bytes, the same ones each time.
func samples() [][]byte {
	r := rand.New(rand.NewSource(8))
	l := [][]byte{[]byte("123456789"), []byte("\x00"), []byte("\x80"), []byte("\x01"), []byte("\xff")}
	for n := range 80 {
		b := make([]byte, n)
		r.Read(b)
		l = append(l, make([]byte, n), bytes.Repeat([]byte{255}, n), b)
	}
	long := make([]byte, 1<<16)
	r.Read(long)
	return append(l, long)
}

// states are the edges, all powers of two, and some more.
func states() []uint32 {
	l := []uint32{0, 5, 1<<32 - 1, 0x82F63B78}
	r := rand.New(rand.NewSource(9))
	for i := range 32 {
		l = append(l, 1<<i, r.Uint32())
	}
	return l
}

// P4.1: the example, and what is known of other bytes.
func TestOfExamples(t *testing.T) {
	for s, want := range map[string]uint32{
		"":                                    0,
		"123456789":                           0xE3069283,
		"a":                                   0xC1D04330,
		string(make([]byte, 32)):              0x8A9136AA,
		string(bytes.Repeat([]byte{255}, 32)): 0x62A8AB43,
	} {
		if got := sum.Of([]byte(s)); got != want {
			t.Errorf("Of(%q) = %X; want %X", s, got, want)
		}
	}
	if sum.Of(nil) != 0 {
		t.Errorf("Of(nil) = %X; want 0", sum.Of(nil))
	}
}

// P4.1: the sum as another maker of it tells it.
func TestOfAmongOthers(t *testing.T) {
	table := crc32.MakeTable(crc32.Castagnoli)
	for _, b := range samples() {
		if got, want := sum.Of(b), crc32.Checksum(b, table); got != want {
			t.Errorf("Of(%.80q) = %X; want %X", b, got, want)
		}
	}
}

// P4.1: the state behind each byte, of each state, and behind many.
func TestMore(t *testing.T) {
	if got := sum.More(1<<32-1, []byte("123456789")); got != 0x1CF96D7C {
		t.Errorf("More(all, 123456789) = %X", got)
	}
	for _, state := range states() {
		if sum.More(state, nil) != state || sum.More(state, []byte{}) != state {
			t.Errorf("More(%X, nothing) = %X", state, sum.More(state, nil))
		}
		for c := range 256 {
			b := []byte{byte(c)}
			if got, want := sum.More(state, b), slow(state, b); got != want {
				t.Errorf("More(%X, %q) = %X; want %X", state, b, got, want)
			}
		}
	}
	for i, b := range samples() {
		state := states()[i%len(states())]
		if got, want := sum.More(state, b), slow(state, b); got != want {
			t.Errorf("More(%X, %.80q) = %X; want %X", state, b, got, want)
		}
	}
}

// P4.2: the lowest byte of the sum stands first.
func TestSeal(t *testing.T) {
	for s, want := range map[string]string{
		"123456789": "123456789\x83\x92\x06\xE3",
		"a":         "a\x30\x43\xD0\xC1",
		"":          "\x00\x00\x00\x00",
	} {
		if got := sum.Seal([]byte(s)); string(got) != want {
			t.Errorf("Seal(%q) = %q; want %q", s, got, want)
		}
	}
	if got := sum.Seal(nil); string(got) != "\x00\x00\x00\x00" {
		t.Errorf("Seal(nil) = %q", got)
	}
	for _, b := range samples() {
		n := sum.Of(b)
		want := append(bytes.Clone(b), byte(n), byte(n>>8), byte(n>>16), byte(n>>24))
		if got := sum.Seal(b); !bytes.Equal(got, want) || !sum.Whole(got) {
			t.Errorf("Seal(%.80q) = %.80q, Whole %v; want %.80q", b, got, sum.Whole(got), want)
		}
	}
}

// P4.2: neither what is handed in, nor the room behind it, is written into or told.
func TestWhatIsSealedIsNew(t *testing.T) {
	whole := "abcdefghijklmnopqrstuvwxyz"
	in := []byte(whole)
	first, second := sum.Seal(in[:3]), sum.Seal(in[:3])
	was := string(second)
	for i := range first {
		first[i] = '!'
	}
	_ = append(first, "!!!!!!!!!!"...)
	if string(in) != whole || string(second) != was {
		t.Errorf("what was handed in is %q; what was told is %q", in, second)
	}
	copy(in, "0123456789")
	if sum.Whole(second); string(second) != was {
		t.Errorf("what was told is now %q", second)
	}
	sum.Of(in)
	sum.More(1, in)
	sum.Whole(in)
	if string(in) != "0123456789"+whole[10:] {
		t.Errorf("what was handed in is %q", in)
	}
}

// P4.2: false of fewer than four bytes, and of four that are not the sum of nothing.
func TestWholeOfFewBytes(t *testing.T) {
	for n := range 4 {
		if sum.Whole(make([]byte, n)) || sum.Whole([]byte("\x83\x92\x06\xE3")[:n]) {
			t.Errorf("Whole of %d bytes", n)
		}
	}
	if sum.Whole(nil) {
		t.Error("Whole(nil)")
	}
	if !sum.Whole(make([]byte, 4)) {
		t.Error("four noughts are the sum of nothing")
	}
	for _, b := range []string{"\x01\x00\x00\x00", "\x00\x00\x00\x01", "\xff\xff\xff\xff", "123456789\xE3\x06\x92\x83", "123456789", "123456789\x83\x92\x06", "23456789\x83\x92\x06\xE3", "123456789\x83\x92\x06\xE3\x00", "123456789\x7C\x6D\xF9\x1C"} {
		if sum.Whole([]byte(b)) {
			t.Errorf("Whole(%q)", b)
		}
	}
}

// P4.3: More of two parts is More of both.
func TestParts(t *testing.T) {
	for i, b := range samples() {
		state := states()[i%len(states())]
		want := sum.More(state, b)
		for cut := range min(len(b), 80) + 1 {
			if got := sum.More(sum.More(state, b[:cut]), b[cut:]); got != want {
				t.Errorf("More(%X, %.80q) cut at %d = %X; want %X", state, b, cut, got, want)
			}
		}
	}
}

// turn turns bit number i of b, each byte's lowest one first.
func turn(b []byte, i int) {
	b[i/8] ^= 1 << (i % 8)
}

// P4.4: bits that are turned within 32 next to one another are found, wherever they stand, in the sum, too.
func TestTurnedBits(t *testing.T) {
	r := rand.New(rand.NewSource(10))
	for _, size := range []int{0, 1, 3, 4, 9, 60} {
		b := make([]byte, size)
		r.Read(b)
		sealed := sum.Seal(b)
		for from := range len(sealed) * 8 {
			burst := min(32, len(sealed)*8-from)
			masks := []uint32{1, 1 << (burst - 1), 1<<burst - 1, 1 | 1<<(burst-1)}
			for range 40 {
				masks = append(masks, r.Uint32()|1)
			}
			for _, mask := range masks {
				turned := bytes.Clone(sealed)
				for i := range burst {
					if mask>>i&1 == 1 {
						turn(turned, from+i)
					}
				}
				if sum.Whole(turned) {
					t.Fatalf("Whole, though bits %X from %d on of %q are turned", mask, from, sealed)
				}
			}
		}
	}
}

// P1: no call panics, whatever bytes and numbers it is given.
func FuzzAll(f *testing.F) {
	f.Add([]byte("123456789"), uint32(1<<32-1), 3)
	f.Fuzz(func(t *testing.T, b []byte, state uint32, cut int) {
		if got, want := sum.More(state, b), slow(state, b); got != want {
			t.Errorf("More(%X, %q) = %X; want %X", state, b, got, want)
		}
		if sum.Of(b) != ^slow(1<<32-1, b) || !sum.Whole(sum.Seal(b)) {
			t.Errorf("Of(%q) = %X", b, sum.Of(b))
		}
		if sum.Whole(b) && !bytes.Equal(sum.Seal(b[:len(b)-4]), b) {
			t.Errorf("Whole(%q)", b)
		}
	})
}
