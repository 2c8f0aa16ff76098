package cidr_test

import (
	"math"
	"math/rand"
	"net/netip"
	"strconv"
	"strings"
	"testing"

	"virgate/api"
	"virgate/cidr"
	"virgate/ip"
)

// strange are numbers of bits that no net has.
var strange = []int{-1, -2, -32, -33, 33, 34, 64, 65, 1 << 32, math.MaxInt, math.MinInt}

// wrong are nets that may not be.
func wrong() []cidr.Net {
	l := []cidr.Net{{Addr: 1, Bits: 24}, {Addr: 1, Bits: 0}, {Addr: 1 << 31, Bits: 0}, {Addr: 1, Bits: 31}, {Addr: 167772160 + 64, Bits: 25}, {Addr: math.MaxUint32, Bits: 31}}
	for _, bits := range strange {
		l = append(l, cidr.Net{Bits: bits}, cidr.Net{Addr: 167772160, Bits: bits}, cidr.Net{Addr: math.MaxUint32, Bits: bits})
	}
	return l
}

// right are nets that may be: of each number of bits the first one, the last one, and some between.
func right() []cidr.Net {
	r := rand.New(rand.NewSource(3))
	var l []cidr.Net
	for bits := range 33 {
		for _, a := range []uint32{0, math.MaxUint32, 167772160, r.Uint32(), r.Uint32()} {
			l = append(l, cidr.Net{Addr: a &^ behind(bits), Bits: bits})
		}
	}
	return l
}

// behind has all bits 1 but the first bits ones.
func behind(bits int) uint32 {
	return uint32(1<<(32-bits) - 1)
}

// all are the nets within 10.0.0.0/27, and those that have it and few more, so that their addresses can be told one by one.
func all() []cidr.Net {
	var l []cidr.Net
	for bits := 26; bits <= 32; bits++ {
		for a := uint32(0); a < 32; a += 1 << (32 - bits) {
			l = append(l, cidr.Net{Addr: 167772160 + a, Bits: bits})
		}
	}
	return append(l, cidr.Net{Addr: 167772160 + 32, Bits: 27}, cidr.Net{Addr: 167772160 - 32, Bits: 27})
}

// addresses tells the addresses of n, by what the word says of their first bits.
func addresses(n cidr.Net) map[uint32]bool {
	m := map[uint32]bool{}
	for a := uint32(167772160 - 64); a < 167772160+128; a++ {
		if ip.Lead(a, n.Addr) >= n.Bits {
			m[a] = true
		}
	}
	return m
}

// P2.1: a net has 0 to 32 bits, and only noughts behind them.
func TestMay(t *testing.T) {
	for _, n := range right() {
		if !cidr.May(n) {
			t.Errorf("May(%v) is false", n)
		}
		for i := range 32 {
			m := cidr.Net{Addr: n.Addr ^ 1<<(31-i), Bits: n.Bits}
			if cidr.May(m) != (i < n.Bits) {
				t.Errorf("May(%v) is %v", m, cidr.May(m))
			}
		}
	}
	for _, n := range wrong() {
		if cidr.May(n) {
			t.Errorf("May(%v) is true", n)
		}
	}
}

// P2.1: what a net's text is.
func TestPrintAndParse(t *testing.T) {
	for s, n := range map[string]cidr.Net{
		"0.0.0.0/0":          {},
		"0.0.0.0/32":         {Bits: 32},
		"128.0.0.0/1":        {Addr: 1 << 31, Bits: 1},
		"10.0.0.0/9":         {Addr: 167772160, Bits: 9},
		"10.0.0.0/10":        {Addr: 167772160, Bits: 10},
		"10.0.0.0/24":        {Addr: 167772160, Bits: 24},
		"10.0.0.64/26":       {Addr: 167772160 + 64, Bits: 26},
		"255.255.255.255/32": {Addr: math.MaxUint32, Bits: 32},
	} {
		if got, e := cidr.Parse(s); got != n || e != api.OK {
			t.Errorf("Parse(%q) = %v, %d; want %v", s, got, e, n)
		}
		if got := cidr.Print(n); got != s {
			t.Errorf("Print(%v) = %q; want %q", n, got, s)
		}
	}
	for _, n := range right() {
		s := ip.Print(n.Addr) + "/" + strconv.Itoa(n.Bits)
		if got, e := cidr.Parse(s); got != n || e != api.OK || cidr.Print(n) != s {
			t.Errorf("Parse(%q) = %v, %d; Print %q", s, got, e, cidr.Print(n))
		}
	}
}

// P2.1: whatever else is no text; with the error the net is the zero one.
func TestParseRefuses(t *testing.T) {
	for _, s := range []string{
		"", "/", "//", "8", "/8", "/0", "10.0.0.0", "10.0.0.0/", "10.0.0.0//8", "10.0.0.0/24/", "10.0.0.0/24/24", "/10.0.0.0/24", "10.0.0.0-24", "10.0.0.0\\24",
		"10.0.0.1/24", "10.0.0.128/24", "0.0.0.1/0", "128.0.0.0/0", "10.0.0.1/31", "255.255.255.255/31", "64.0.0.0/1",
		"10.0.0.0/33", "10.0.0.0/34", "0.0.0.0/64", "0.0.0.0/99", "0.0.0.0/100", "0.0.0.0/032", "0.0.0.0/320", "0.0.0.0/4294967296", "0.0.0.0/18446744073709551616",
		"10.0.0.0/024", "10.0.0.0/00", "10.0.0.0/08", "0.0.0.0/00", "0.0.0.0/000", "0.0.0.0/01",
		"10.0.0.0/-1", "10.0.0.0/-0", "10.0.0.0/+8", "10.0.0.0/ 8", "10.0.0.0/8 ", "10.0.0.0 /8", " 10.0.0.0/8", "10.0.0.0/8\n", "10.0.0.0/8\x00", "10.0.0.0/0x8", "10.0.0.0/1e1", "10.0.0.0/a", "10.0.0.0/1a", "10.0.0.0/2:", "10.0.0.0/2/", "10.0.0.0/\xb9",
		"10.0.0/8", "10.0.0.0.0/8", "010.0.0.0/8", "256.0.0.0/8", "10.0.0.256/8", "10/8", "::/0", "::/8",
		"10.0.0.0/" + strings.Repeat("1", 1<<16), "10.0.0.0" + strings.Repeat("/", 1<<16), strings.Repeat("10.0.0.0/8", 1<<12),
	} {
		if n, e := cidr.Parse(s); n != (cidr.Net{}) || e != api.ErrForm {
			t.Errorf("Parse(%.40q) = %v, %d; want ErrForm", s, n, e)
		}
	}
}

// P2.1: texts that are almost right are told as another reader of nets tells them.
func TestParseAmongOthers(t *testing.T) {
	r := rand.New(rand.NewSource(4))
	const signs = "0123456789012./ -a"
	for range 20000 {
		bits := r.Intn(33)
		s := []byte(cidr.Print(cidr.Net{Addr: r.Uint32() &^ behind(bits), Bits: bits}))
		i, c := r.Intn(len(s)), signs[r.Intn(len(signs))]
		switch r.Intn(3) {
		case 0:
			s[i] = c
		case 1:
			s = append(s[:i], s[i+1:]...)
		default:
			s = append(s[:i], append([]byte{c}, s[i:]...)...)
		}
		want, wantErr := cidr.Net{}, api.ErrForm
		if p, err := netip.ParsePrefix(string(s)); err == nil && p.Addr().Is4() && p == p.Masked() {
			want, wantErr = cidr.Net{Addr: ip.Of(p.Addr().As4()), Bits: p.Bits()}, api.OK
		}
		if n, e := cidr.Parse(string(s)); n != want || e != wantErr {
			t.Fatalf("Parse(%q) = %v, %d; want %v, %d", s, n, e, want, wantErr)
		}
	}
}

// P2.1: the first bits are 1, all others 0; none below 0, all above 32.
func TestMask(t *testing.T) {
	for bits := range 33 {
		m := cidr.Mask(bits)
		for i := range 32 {
			if ip.Bit(m, i) != (i < bits) {
				t.Errorf("Mask(%d) = %X", bits, m)
			}
		}
	}
	for _, bits := range strange {
		want := uint32(0)
		if bits > 0 {
			want = math.MaxUint32
		}
		if m := cidr.Mask(bits); m != want {
			t.Errorf("Mask(%d) = %X; want %X", bits, m, want)
		}
	}
}

// P2.2: how many addresses, the greatest one, and each one's place.
func TestAddresses(t *testing.T) {
	for _, n := range all() {
		in := addresses(n)
		if n.Size() != int64(len(in)) {
			t.Errorf("%v.Size() = %d; want %d", n, n.Size(), len(in))
		}
		if !in[n.Last()] || in[n.Last()+1] {
			t.Errorf("%v.Last() = %d", n, n.Last())
		}
		for a := uint32(167772160 - 70); a < 167772160+140; a++ {
			k, ok := n.Place(a)
			if n.Has(a) != in[a] || ok != in[a] {
				t.Errorf("%v.Has(%d) = %v, Place %v; want %v", n, a, n.Has(a), ok, in[a])
			}
			if in[a] && k != int64(a)-int64(n.Addr) || !in[a] && k != 0 {
				t.Errorf("%v.Place(%d) = %d", n, a, k)
			}
		}
	}
}

// P2.2: the greatest nets, and the least ones.
func TestAddressesOfAnyNet(t *testing.T) {
	for _, n := range right() {
		size := int64(math.Pow(2, float64(32-n.Bits)))
		last := int64(n.Addr) + size - 1
		if n.Size() != size || int64(n.Last()) != last {
			t.Errorf("%v: Size %d, Last %d; want %d, %d", n, n.Size(), n.Last(), size, last)
		}
		if k, ok := n.Place(n.Last()); k != size-1 || !ok || !n.Has(n.Addr) || !n.Has(n.Last()) {
			t.Errorf("%v: Place of the last one %d, %v", n, k, ok)
		}
		for _, a := range []int64{int64(n.Addr) - 1, last + 1} {
			if k, ok := n.Place(uint32(a)); a == int64(uint32(a)) && (k != 0 || ok || n.Has(uint32(a))) {
				t.Errorf("%v.Place(%d) = %d, %v", n, a, k, ok)
			}
		}
	}
}

// P2.2, P2.4: of any two nets whether the one has all addresses of the other, or one; if they meet, one covers the other.
func TestCoversAndMeets(t *testing.T) {
	l := all()
	sets := make([]map[uint32]bool, len(l))
	for i := range l {
		sets[i] = addresses(l[i])
	}
	for i, n := range l {
		for j, m := range l {
			both := 0
			for a := range sets[j] {
				if sets[i][a] {
					both++
				}
			}
			if n.Covers(m) != (both == len(sets[j])) {
				t.Errorf("%v.Covers(%v) = %v", n, m, n.Covers(m))
			}
			if n.Meets(m) != (both > 0) {
				t.Errorf("%v.Meets(%v) = %v", n, m, n.Meets(m))
			}
			if n.Meets(m) != (n.Covers(m) || m.Covers(n)) {
				t.Errorf("%v and %v meet without covering, or the other way", n, m)
			}
		}
	}
	for _, n := range right() {
		if whole := (cidr.Net{}); !n.Covers(n) || !n.Meets(n) || !whole.Covers(n) || n.Covers(whole) != (n.Bits == 0) || !whole.Meets(n) || !n.Meets(whole) {
			t.Errorf("%v, itself, and all that there is", n)
		}
	}
}

// P2.3, P2.4: the nets of Nth are those that are covered, one behind the other, and have each address once.
func TestCountAndNth(t *testing.T) {
	for _, n := range all() {
		for bits := n.Bits; bits <= 32; bits++ {
			next := int64(n.Addr)
			for k := range n.Count(bits) {
				m, e := n.Nth(bits, k)
				if e != api.OK || m.Bits != bits || !cidr.May(m) || !n.Covers(m) || int64(m.Addr) != next {
					t.Fatalf("%v.Nth(%d, %d) = %v, %d; want its first address %d", n, bits, k, m, e, next)
				}
				next += m.Size()
			}
			if next != int64(n.Last())+1 {
				t.Errorf("%v: its nets of %d bits end ahead of %d", n, bits, next)
			}
		}
	}
}

// P2.3: the bounds of how many there are, and of which of them is asked for.
func TestCountAndNthAtTheirBounds(t *testing.T) {
	for _, n := range right() {
		for bits := range 33 {
			want := int64(0)
			if bits >= n.Bits {
				want = int64(math.Pow(2, float64(bits-n.Bits)))
			}
			if n.Count(bits) != want {
				t.Errorf("%v.Count(%d) = %d; want %d", n, bits, n.Count(bits), want)
			}
			for _, k := range []int64{-1, want, want + 1, 1 << 32, math.MinInt64, math.MaxInt64} {
				if m, e := n.Nth(bits, k); m != (cidr.Net{}) || e != api.ErrArg {
					t.Errorf("%v.Nth(%d, %d) = %v, %d; want ErrArg", n, bits, k, m, e)
				}
			}
			if want == 0 {
				continue
			}
			last := cidr.Net{Addr: n.Last() &^ behind(bits), Bits: bits}
			if m, e := n.Nth(bits, want-1); m != last || e != api.OK {
				t.Errorf("%v.Nth(%d, %d) = %v, %d; want %v", n, bits, want-1, m, e, last)
			}
			if m, e := n.Nth(bits, 0); m != (cidr.Net{Addr: n.Addr, Bits: bits}) || e != api.OK {
				t.Errorf("%v.Nth(%d, 0) = %v, %d", n, bits, m, e)
			}
		}
		for _, bits := range strange {
			if m, e := n.Nth(bits, 0); n.Count(bits) != 0 || m != (cidr.Net{}) || e != api.ErrArg {
				t.Errorf("%v: Count(%d) = %d; Nth %v, %d", n, bits, n.Count(bits), m, e)
			}
		}
	}
}

// P2.3: the first example, and the bound that 2^32 nets are told.
func TestCountExamples(t *testing.T) {
	n := cidr.Net{Addr: 167772160, Bits: 24}
	if m, e := n.Nth(26, 3); n.Count(26) != 4 || cidr.Print(m) != "10.0.0.192/26" || e != api.OK {
		t.Error("10.0.0.0/24 in nets of 26 bits", n.Count(26), m, e)
	}
	whole := cidr.Net{}
	if m, e := whole.Nth(32, 1<<32-1); whole.Count(32) != 1<<32 || m != (cidr.Net{Addr: math.MaxUint32, Bits: 32}) || e != api.OK {
		t.Error("0.0.0.0/0 in nets of 32 bits", whole.Count(32), m, e)
	}
}

// P2.3: the net of so many bits that has an address.
func TestBlock(t *testing.T) {
	r := rand.New(rand.NewSource(5))
	for bits := range 33 {
		for _, a := range []uint32{0, math.MaxUint32, 167772161, r.Uint32(), r.Uint32()} {
			n, e := cidr.Block(a, bits)
			if e != api.OK || n.Bits != bits || !cidr.May(n) || !n.Has(a) {
				t.Errorf("Block(%d, %d) = %v, %d", a, bits, n, e)
			}
		}
	}
	for _, bits := range strange {
		if n, e := cidr.Block(167772160, bits); n != (cidr.Net{}) || e != api.ErrArg {
			t.Errorf("Block(10.0.0.0, %d) = %v, %d; want ErrArg", bits, n, e)
		}
	}
}

// P1, P2.1 to P2.3: of nets that may not be nothing is told.
func TestNetsThatMayNotBe(t *testing.T) {
	good := append(right(), wrong()...)
	for _, n := range wrong() {
		if s := cidr.Print(n); s != "" || n.Size() != 0 || n.Last() != 0 {
			t.Errorf("%v: %q, Size %d, Last %d", n, s, n.Size(), n.Last())
		}
		for _, a := range []uint32{0, 1, n.Addr, n.Addr + 1, math.MaxUint32} {
			if k, ok := n.Place(a); n.Has(a) || k != 0 || ok {
				t.Errorf("%v: has %d, Place %d, %v", n, a, k, ok)
			}
		}
		for _, m := range good {
			if n.Covers(m) || m.Covers(n) || n.Meets(m) || m.Meets(n) {
				t.Errorf("%v and %v: one covers, or meets, the other", n, m)
			}
		}
		for _, bits := range append([]int{0, 1, 24, 26, 31, 32, n.Bits}, strange...) {
			for _, k := range []int64{0, 1, -1, math.MinInt64, math.MaxInt64} {
				if m, e := n.Nth(bits, k); n.Count(bits) != 0 || m != (cidr.Net{}) || e != api.ErrArg {
					t.Errorf("%v: Count(%d) %d; Nth %v, %d", n, bits, n.Count(bits), m, e)
				}
			}
		}
	}
}

// P1: no call panics, whatever bytes and numbers it is given.
func FuzzAll(f *testing.F) {
	f.Add("10.0.0.0/24", uint32(167772160), 24, uint32(0), 0, 26, int64(3))
	f.Fuzz(func(t *testing.T, s string, a uint32, bits int, b uint32, more int, want int, k int64) {
		if n, e := cidr.Parse(s); e != api.OK && (n != (cidr.Net{}) || e != api.ErrForm) || e == api.OK && cidr.Print(n) != s {
			t.Errorf("Parse(%q) = %v, %d", s, n, e)
		}
		n, m := cidr.Net{Addr: a, Bits: bits}, cidr.Net{Addr: b, Bits: more}
		if n.Meets(m) != (n.Covers(m) || m.Covers(n)) || n.Meets(m) != m.Meets(n) {
			t.Errorf("%v and %v", n, m)
		}
		if x, e := n.Nth(want, k); e == api.OK && !n.Covers(x) || e != api.OK && (x != (cidr.Net{}) || e != api.ErrArg) {
			t.Errorf("%v.Nth(%d, %d) = %v, %d", n, want, k, x, e)
		}
		if x, e := cidr.Block(a, want); e == api.OK && !x.Has(a) || e != api.OK && (x != (cidr.Net{}) || e != api.ErrArg) {
			t.Errorf("Block(%d, %d) = %v, %d", a, want, x, e)
		}
		if x, ok := n.Place(b); ok != n.Has(b) || ok && int64(n.Addr)+x != int64(b) {
			t.Errorf("%v.Place(%d) = %d, %v", n, b, x, ok)
		}
	})
}
