package ip_test

import (
	"math"
	"math/rand"
	"net/netip"
	"strconv"
	"strings"
	"testing"

	"virgate/api"
	"virgate/ip"
)

// samples are the edges, all powers of two, their neighbours, and some more, the same ones each time.
func samples() []uint32 {
	l := []uint32{0, 167772161, 0x01020304, 0x7FFFFFFF, math.MaxUint32}
	for i := range 32 {
		p := uint32(1) << i
		l = append(l, p, p-1, p+1, ^p)
	}
	r := rand.New(rand.NewSource(1))
	for range 500 {
		l = append(l, r.Uint32())
	}
	return l
}

// P1.1: what an address's text is.
func TestPrintAndParse(t *testing.T) {
	for s, want := range map[string]uint32{
		"0.0.0.0":         0,
		"0.0.0.1":         1,
		"10.0.0.1":        167772161,
		"1.2.3.4":         0x01020304,
		"127.0.0.1":       0x7F000001,
		"100.200.109.90":  0x64C86D5A,
		"255.255.255.255": math.MaxUint32,
	} {
		if a, e := ip.Parse(s); a != want || e != api.OK {
			t.Errorf("Parse(%q) = %d, %d; want %d", s, a, e, want)
		}
		if got := ip.Print(want); got != s {
			t.Errorf("Print(%d) = %q; want %q", want, got, s)
		}
	}
}

// P1.1: each number of each byte has one text, and 256 and beyond have none.
func TestParseEachByte(t *testing.T) {
	for place := range 4 {
		for n := range 1200 {
			parts := []string{"9", "8", "7", "6"}
			parts[place] = strconv.Itoa(n)
			b := [4]byte{9, 8, 7, 6}
			b[place] = byte(n)
			want, wantErr := ip.Of(b), api.OK
			if n > 255 {
				want, wantErr = 0, api.ErrForm
			}
			s := strings.Join(parts, ".")
			if a, e := ip.Parse(s); a != want || e != wantErr {
				t.Errorf("Parse(%q) = %d, %d; want %d, %d", s, a, e, want, wantErr)
			}
		}
	}
}

// P1.1: whatever else is no text; with the error the address is 0.
func TestParseRefuses(t *testing.T) {
	for _, s := range []string{
		"", ".", "...", "....", "1", "1.2", "1.2.3", "1.2.3.", ".1.2.3", "1.2.3.4.", ".1.2.3.4", "1.2.3.4.5", "1..2.3", "1.2..3", "1.2.3..4",
		"01.2.3.4", "1.02.3.4", "1.2.003.4", "1.2.3.04", "00.0.0.0", "0.0.0.00", "0000.0.0.0",
		"256.2.3.4", "1.2.3.256", "1.2.3.260", "1.2.3.300", "1.2.3.999", "1000.0.0.0", "1.2.3.4294967296", "1.2.3.18446744073709551616",
		" 1.2.3.4", "1.2.3.4 ", "1. 2.3.4", "1.2.3.4\n", "1.2.3.4\x00", "1.2.3.4/32",
		"-1.2.3.4", "+1.2.3.4", "1.2.3.-0", "0x1.2.3.4", "1e1.2.3.4", "1_0.2.3.4", "a.b.c.d", "1.2.3.a", "1.2.3./", "1.2.3.:", "1,2,3,4", "167772161", "::1", "::ffff:1.2.3.4",
		"\u0661.2.3.4", "\xff.2.3.4", "1.2.3.\xb9",
		strings.Repeat("1", 1<<16), strings.Repeat("1.", 1<<16), strings.Repeat("0", 1<<16) + "1.2.3.4",
	} {
		if a, e := ip.Parse(s); a != 0 || e != api.ErrForm {
			t.Errorf("Parse(%.40q) = %d, %d; want ErrForm", s, a, e)
		}
	}
}

// P1.1: texts that are almost right are told as another reader of addresses tells them.
func TestParseAmongOthers(t *testing.T) {
	r := rand.New(rand.NewSource(2))
	const signs = "0123456789012./ -a"
	for range 20000 {
		s := []byte(ip.Print(r.Uint32() >> r.Intn(32)))
		for range 1 + r.Intn(2) {
			i, c := r.Intn(len(s)), signs[r.Intn(len(signs))]
			switch r.Intn(3) {
			case 0:
				s[i] = c
			case 1:
				s = append(s[:i], s[i+1:]...)
			default:
				s = append(s[:i], append([]byte{c}, s[i:]...)...)
			}
		}
		want, wantErr := uint32(0), api.ErrForm
		if p, err := netip.ParseAddr(string(s)); err == nil && p.Is4() {
			want, wantErr = ip.Of(p.As4()), api.OK
		}
		if a, e := ip.Parse(string(s)); a != want || e != wantErr {
			t.Fatalf("Parse(%q) = %d, %d; want %d, %d", s, a, e, want, wantErr)
		}
	}
}

// P1.1: an address's bytes, the highest one first.
func TestBytesAndOf(t *testing.T) {
	for a, b := range map[uint32][4]byte{
		0:              {},
		1:              {0, 0, 0, 1},
		167772161:      {10, 0, 0, 1},
		0x01020304:     {1, 2, 3, 4},
		0xFF000000:     {255, 0, 0, 0},
		0x00FF0080:     {0, 255, 0, 128},
		math.MaxUint32: {255, 255, 255, 255},
	} {
		if got := ip.Bytes(a); got != b {
			t.Errorf("Bytes(%d) = %v; want %v", a, got, b)
		}
		if got := ip.Of(b); got != a {
			t.Errorf("Of(%v) = %d; want %d", b, got, a)
		}
	}
}

// P1.2: a number that may be negative, and as great as any.
func TestAdd(t *testing.T) {
	const most = math.MaxUint32
	for _, c := range []struct {
		a    uint32
		n    int64
		want uint32
		e    api.Errno
	}{
		{0, 0, 0, api.OK},
		{5, 3, 8, api.OK},
		{5, -5, 0, api.OK},
		{5, -6, 0, api.ErrArg},
		{0, -1, 0, api.ErrArg},
		{0, most, most, api.OK},
		{0, most + 1, 0, api.ErrArg},
		{1, most, 0, api.ErrArg},
		{1, most - 1, most, api.OK},
		{most, 0, most, api.OK},
		{most, 1, 0, api.ErrArg},
		{most, -1, most - 1, api.OK},
		{most, -most, 0, api.OK},
		{most, -most - 1, 0, api.ErrArg},
		{1 << 31, 1 << 30, 3 << 30, api.OK},
		{0, math.MaxInt64, 0, api.ErrArg},
		{0, math.MinInt64, 0, api.ErrArg},
		{7, 1 << 32, 0, api.ErrArg},
		{7, -1 << 32, 0, api.ErrArg},
		{7, 1<<33 - 7, 0, api.ErrArg},
		{most, math.MaxInt64, 0, api.ErrArg},
		{most, math.MinInt64, 0, api.ErrArg},
	} {
		if got, e := ip.Add(c.a, c.n); got != c.want || e != c.e {
			t.Errorf("Add(%d, %d) = %d, %d; want %d, %d", c.a, c.n, got, e, c.want, c.e)
		}
	}
}

// P1.2: Between is b less a, and Add of it leads from a to b.
func TestBetween(t *testing.T) {
	for _, c := range []struct {
		a, b uint32
		want int64
	}{
		{3, 10, 7},
		{10, 3, -7},
		{9, 9, 0},
		{0, math.MaxUint32, math.MaxUint32},
		{math.MaxUint32, 0, -math.MaxUint32},
		{1 << 31, 0, -1 << 31},
	} {
		if got := ip.Between(c.a, c.b); got != c.want {
			t.Errorf("Between(%d, %d) = %d; want %d", c.a, c.b, got, c.want)
		}
	}
	l := samples()
	for i, a := range l {
		b := l[len(l)-1-i]
		if got, e := ip.Add(a, ip.Between(a, b)); got != b || e != api.OK {
			t.Errorf("Add(%d, Between(%d, %d)) = %d, %d", a, a, b, got, e)
		}
	}
}

// P1.2: bits are numbered from the highest one on.
func TestBit(t *testing.T) {
	for _, a := range samples() {
		digits := strconv.FormatUint(uint64(a)|1<<32, 2)[1:]
		for i := range 32 {
			if got := ip.Bit(a, i); got != (digits[i] == '1') {
				t.Errorf("Bit(%s, %d) = %v", digits, i, got)
			}
		}
	}
	for _, i := range []int{-1, -32, -33, 32, 33, 63, 64, 1 << 32, math.MaxInt, math.MinInt} {
		if ip.Bit(math.MaxUint32, i) {
			t.Errorf("Bit(all, %d)", i)
		}
	}
}

// P1.2: the first bit that is unlike ends what both share, whatever stands behind it.
func TestLead(t *testing.T) {
	for _, a := range samples() {
		if got := ip.Lead(a, a); got != 32 {
			t.Errorf("Lead(%d, %d) = %d; want 32", a, a, got)
		}
		for i := range 32 {
			unlike := uint32(1) << (31 - i)
			for _, behind := range []uint32{0, unlike - 1, unlike / 3} {
				b := a ^ (unlike | behind)
				if ip.Lead(a, b) != i || ip.Lead(b, a) != i {
					t.Errorf("Lead(%d, %d) = %d, and %d; want %d", a, b, ip.Lead(a, b), ip.Lead(b, a), i)
				}
			}
		}
	}
}

// P1.3: what is printed, or told as bytes, is the same address again.
func TestSameAgain(t *testing.T) {
	for _, a := range samples() {
		if got, e := ip.Parse(ip.Print(a)); got != a || e != api.OK {
			t.Errorf("Parse(Print(%d)) = %d, %d", a, got, e)
		}
		if got := ip.Of(ip.Bytes(a)); got != a {
			t.Errorf("Of(Bytes(%d)) = %d", a, got)
		}
	}
}

// P1: no call panics, whatever bytes and numbers it is given.
func FuzzAll(f *testing.F) {
	f.Add("10.0.0.1", uint32(0), uint32(1), int64(-1), 32)
	f.Fuzz(func(t *testing.T, s string, a, b uint32, n int64, i int) {
		if x, e := ip.Parse(s); e != api.OK && (x != 0 || e != api.ErrForm) || e == api.OK && ip.Print(x) != s {
			t.Errorf("Parse(%q) = %d, %d", s, x, e)
		}
		if x, e := ip.Add(a, n); e != api.OK && (x != 0 || e != api.ErrArg) || e == api.OK && ip.Between(a, x) != n {
			t.Errorf("Add(%d, %d) = %d, %d", a, n, x, e)
		}
		if ip.Bit(a, i) && (i < 0 || i > 31) {
			t.Errorf("Bit(%d, %d)", a, i)
		}
		if k := ip.Lead(a, b); k < 0 || k > 32 || ip.Bit(a, k) != ip.Bit(b, k) == (k == 32) {
			t.Errorf("Lead(%d, %d) = %d", a, b, k)
		}
	})
}
