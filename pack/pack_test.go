package pack_test

import (
	"bytes"
	"encoding/binary"
	"math"
	"math/rand"
	"strings"
	"testing"

	"virgate/api"
	"virgate/pack"
)

// strange are widths that no number has.
var strange = []int{0, -1, -2, -8, 9, 10, 16, 64, 256, 1 << 32, 1<<32 + 1, math.MaxInt, math.MinInt}

// numbers are the edges of each width, and some more, the same ones each time.
func numbers() []uint64 {
	l := []uint64{0, 258, 0x0102030405060708, 0xF1E2D3C4B5A69788, math.MaxUint64}
	for i := range 64 {
		p := uint64(1) << i
		l = append(l, p, p-1, p+1)
	}
	r := rand.New(rand.NewSource(6))
	for range 100 {
		l = append(l, r.Uint64())
	}
	return l
}

// bytesOf tells the bytes of n as a number of width, by another writer of numbers.
func bytesOf(n uint64, width int) string {
	return string(binary.BigEndian.AppendUint64(nil, n))[8-width:]
}

// wantBad holds what a bad reader tells.
func wantBad(t *testing.T, what string, r *pack.Reader) {
	t.Helper()
	if !r.Bad() || r.Done() || r.Left() != 0 {
		t.Errorf("%s: Bad %v, Done %v, Left %d; want a bad reader", what, r.Bad(), r.Done(), r.Left())
	}
	for range 2 {
		if n := r.U(1); n != 0 {
			t.Errorf("%s: U(1) of a bad reader = %d", what, n)
		}
		if s := r.Text(); s != "" {
			t.Errorf("%s: Text of a bad reader = %q", what, s)
		}
		for _, n := range []int{0, 1, -1} {
			if b := r.Bytes(n); len(b) != 0 {
				t.Errorf("%s: Bytes(%d) of a bad reader = %q", what, n, b)
			}
		}
	}
	if !r.Bad() || r.Done() || r.Left() != 0 {
		t.Errorf("%s: a bad reader does not stay bad", what)
	}
}

// wantGood holds what a reader of left bytes tells.
func wantGood(t *testing.T, what string, r *pack.Reader, left int) {
	t.Helper()
	if r.Bad() || r.Done() != (left == 0) || r.Left() != left {
		t.Errorf("%s: Bad %v, Done %v, Left %d; want Left %d", what, r.Bad(), r.Done(), r.Left(), left)
	}
}

// P3.1: the first example, and each byte's place, the highest one first.
func TestPut(t *testing.T) {
	for _, c := range []struct {
		n     uint64
		width int
		want  string
	}{
		{258, 2, "\x01\x02"},
		{0, 1, "\x00"},
		{0, 8, "\x00\x00\x00\x00\x00\x00\x00\x00"},
		{1, 3, "\x00\x00\x01"},
		{0x0102030405060708, 8, "\x01\x02\x03\x04\x05\x06\x07\x08"},
		{math.MaxUint32, 4, "\xff\xff\xff\xff"},
		{math.MaxUint32, 5, "\x00\xff\xff\xff\xff"},
	} {
		if b := pack.Put(nil, c.n, c.width); string(b) != c.want {
			t.Errorf("Put(nothing, %d, %d) = %q; want %q", c.n, c.width, b, c.want)
		}
		if b := pack.Put([]byte("ab"), c.n, c.width); string(b) != "ab"+c.want {
			t.Errorf("Put(ab, %d, %d) = %q; want %q behind ab", c.n, c.width, b, c.want)
		}
	}
}

// P3.1: of a number that is too great the lowest bytes are put.
func TestPutEachWidth(t *testing.T) {
	for _, n := range numbers() {
		for width := 1; width <= 8; width++ {
			want := bytesOf(n, width)
			if b := pack.Put(nil, n, width); string(b) != want {
				t.Errorf("Put(nothing, %X, %d) = %q; want %q", n, width, b, want)
			}
		}
	}
}

// P3.1: b alone, if there is no such width.
func TestPutWidthsThatMayNotBe(t *testing.T) {
	for _, width := range strange {
		for _, s := range []string{"", "a", "ab\x00"} {
			if b := pack.Put([]byte(s), math.MaxUint64, width); string(b) != s {
				t.Errorf("Put(%q, all, %d) = %q", s, width, b)
			}
		}
		if b := pack.Put(nil, 1, width); len(b) != 0 {
			t.Errorf("Put(nil, 1, %d) = %q", width, b)
		}
	}
}

// P3.1: a text is its length and its bytes, of whatever kind; ErrArg beyond 64.
func TestText(t *testing.T) {
	for n := range 300 {
		s := strings.Repeat("\x00\xffa/\n\xc3", 50)[:n]
		b, e := pack.Text([]byte{7, 8}, s)
		if n > api.MaxText {
			if len(b) != 0 || e != api.ErrArg {
				t.Errorf("Text of %d bytes = %q, %d; want ErrArg", n, b, e)
			}
			continue
		}
		if want := "\x07\x08" + string([]byte{byte(n)}) + s; string(b) != want || e != api.OK {
			t.Errorf("Text of %d bytes = %q, %d; want %q", n, b, e, want)
		}
	}
	if b, e := pack.Text(nil, ""); string(b) != "\x00" || e != api.OK {
		t.Errorf("Text of nothing = %q, %d", b, e)
	}
	for _, n := range []int{1 << 8, 1<<8 + 1, 1 << 16, 1 << 20} {
		if b, e := pack.Text([]byte{7}, strings.Repeat("a", n)); len(b) != 0 || e != api.ErrArg {
			t.Errorf("Text of %d bytes = %.40q, %d; want ErrArg", n, b, e)
		}
	}
}

// P3.1: neither what is handed in, nor the room behind it, is written into or told.
func TestWhatIsPutIsNew(t *testing.T) {
	whole := []byte("abcdefghijklmnopqrstuvwxyz")
	put := func(what string, f func(b []byte) []byte) {
		in := bytes.Clone(whole)
		first, second := f(in[:3]), f(in[:3])
		was := string(second)
		for i := range first {
			first[i] = '!'
		}
		_ = append(first, "!!!!!!!!!!"...)
		if !bytes.Equal(in, whole) {
			t.Errorf("%s: what was handed in is %q", what, in)
		}
		if copy(in, "0123456789"); string(second) != was {
			t.Errorf("%s: what was told is now %q; it was %q", what, second, was)
		}
	}
	for _, width := range append(strange, 1, 2, 7, 8) {
		put("Put", func(b []byte) []byte { return pack.Put(b, 1<<62+5, width) })
	}
	for _, s := range []string{"", "x", strings.Repeat("y", 64)} {
		put("Text", func(b []byte) []byte { c, _ := pack.Text(b, s); return c })
	}
}

// P3.2: what stands next is read, one behind the other.
func TestReader(t *testing.T) {
	r := pack.New([]byte("\x01\x02\x02ab\x00xyz\xff\xfe\xfd\xfc\xfb\xfa\xf9\xf8"))
	wantGood(t, "all", r, 17)
	if n := r.U(2); n != 258 {
		t.Errorf("U(2) = %d", n)
	}
	wantGood(t, "behind a number", r, 15)
	if s := r.Text(); s != "ab" {
		t.Errorf("Text = %q", s)
	}
	wantGood(t, "behind a text", r, 12)
	if s := r.Text(); s != "" {
		t.Errorf("Text = %q", s)
	}
	wantGood(t, "behind a text of nothing", r, 11)
	if b := r.Bytes(0); len(b) != 0 {
		t.Errorf("Bytes(0) = %q", b)
	}
	wantGood(t, "behind no byte", r, 11)
	if b := r.Bytes(3); string(b) != "xyz" {
		t.Errorf("Bytes(3) = %q", b)
	}
	wantGood(t, "behind bytes", r, 8)
	if n := r.U(8); n != 0xfffefdfcfbfaf9f8 {
		t.Errorf("U(8) = %X", n)
	}
	wantGood(t, "at the end", r, 0)
	if b := r.Bytes(0); len(b) != 0 {
		t.Errorf("Bytes(0) at the end = %q", b)
	}
	wantGood(t, "still at the end", r, 0)
	wantGood(t, "a reader of nothing", pack.New(nil), 0)
	wantGood(t, "a reader of no byte", pack.New([]byte{}), 0)
}

// P3.2: numbers of all widths; one byte fewer, and the reader is bad.
func TestU(t *testing.T) {
	for _, n := range numbers() {
		for width := 1; width <= 8; width++ {
			s := bytesOf(n, width)
			want := n
			if width < 8 {
				want = n % (1 << (8 * width))
			}
			r := pack.New([]byte(s))
			if got := r.U(width); got != want {
				t.Errorf("U(%d) of %q = %X; want %X", width, s, got, want)
			}
			wantGood(t, "U", r, 0)
			short := pack.New([]byte(s[1:]))
			if got := short.U(width); got != 0 {
				t.Errorf("U(%d) of %q = %X; want 0", width, s[1:], got)
			}
			wantBad(t, "U of too few bytes", short)
		}
	}
}

// P3.2: a width that may not be makes the reader bad, whatever is to be read.
func TestUOfWidthsThatMayNotBe(t *testing.T) {
	for _, width := range strange {
		for _, s := range []string{"", "0123456789"} {
			r := pack.New([]byte(s))
			if n := r.U(width); n != 0 {
				t.Errorf("U(%d) = %d", width, n)
			}
			wantBad(t, "U", r)
		}
	}
}

// P3.2: texts up to 64 bytes; longer ones, and those that are cut off, make the reader bad.
func TestReadText(t *testing.T) {
	for n := range 256 {
		s := strings.Repeat("\x00\xffa/\n\xc3", 50)[:n]
		b := append([]byte{byte(n)}, s...)
		r := pack.New(append(bytes.Clone(b), "behind"...))
		got := r.Text()
		if n > 64 {
			if got != "" {
				t.Errorf("Text of %d bytes = %q; want nothing", n, got)
			}
			wantBad(t, "a text that is too long", r)
			continue
		}
		if got != s {
			t.Errorf("Text of %d bytes = %q; want %q", n, got, s)
		}
		wantGood(t, "Text", r, len("behind"))
		for have := range len(b) {
			short := pack.New(b[:have])
			if got := short.Text(); got != "" {
				t.Errorf("Text of %q = %q; want nothing", b[:have], got)
			}
			wantBad(t, "a text that is cut off", short)
		}
	}
}

// P3.2: up to all bytes; more than these, and fewer than none, make the reader bad.
func TestReadBytes(t *testing.T) {
	for n := range 11 {
		r := pack.New([]byte("0123456789"))
		if b := r.Bytes(n); string(b) != "0123456789"[:n] {
			t.Errorf("Bytes(%d) = %q", n, b)
		}
		wantGood(t, "Bytes", r, 10-n)
	}
	for _, n := range []int{11, 12, 16, 17, 1 << 20, 1 << 31, 1 << 32, 1<<32 + 1, math.MaxInt, -1, -2, -10, -1 << 32, math.MinInt} {
		for _, s := range []string{"", "0123456789"} {
			r := pack.New([]byte(s))
			if b := r.Bytes(n); len(b) != 0 {
				t.Errorf("Bytes(%d) of %q = %q", n, s, b)
			}
			wantBad(t, "Bytes", r)
		}
	}
}

// P3.2: bytes beyond those that are handed in are not read, even if there is room for them.
func TestRoomBehindIsNotRead(t *testing.T) {
	r := pack.New([]byte("0123456789")[:4])
	wantGood(t, "four of ten", r, 4)
	if b := r.Bytes(5); len(b) != 0 {
		t.Errorf("Bytes(5) of four = %q", b)
	}
	wantBad(t, "five of four", r)
}

// P3.2: what is handed in is not kept, nor changed.
func TestReaderKeepsNoList(t *testing.T) {
	in := []byte("\x00\x05abcde")
	r := pack.New(in)
	copy(in, "!!!!!!!")
	if n, b := r.U(2), r.Bytes(5); n != 5 || string(b) != "abcde" {
		t.Errorf("read %d, %q, though it was handed in otherwise", n, b)
	}
	in = []byte("\x02abcdef")
	b := pack.New(in).Bytes(7)
	for i := range b {
		b[i] = '!'
	}
	if string(in) != "\x02abcdef" {
		t.Errorf("what was handed in is now %q", in)
	}
}

// P3.2: what is written into bytes that were told, or appended to them, is seen nowhere else.
func TestToldBytesAreAlone(t *testing.T) {
	r := pack.New([]byte("abcdef\x02gh\x00\x07"))
	first := r.Bytes(3)
	_ = append(first, "!!!!!!!!"...)
	second := r.Bytes(3)
	if string(second) != "def" {
		t.Errorf("behind what was appended stands %q", second)
	}
	for i := range second {
		second[i] = '?'
	}
	_ = append(second, "!!!!!!!!"...)
	_ = append(second[:0], "????????"...)
	_ = append(r.Bytes(0), "!!!!!!!!"...)
	if s, n := r.Text(), r.U(2); string(first) != "abc" || s != "gh" || n != 7 || !r.Done() {
		t.Errorf("told %q, then %q, %d", first, s, n)
	}
}

// P3.2: a nil reader is bad; one that was made by hand has nothing.
func TestNilReader(t *testing.T) {
	var none *pack.Reader
	for _, width := range append(strange, 1, 8) {
		if n := none.U(width); n != 0 {
			t.Errorf("U(%d) of a nil reader = %d", width, n)
		}
	}
	for _, n := range []int{0, 1, -1, math.MaxInt, math.MinInt} {
		if b := none.Bytes(n); len(b) != 0 {
			t.Errorf("Bytes(%d) of a nil reader = %q", n, b)
		}
	}
	wantBad(t, "a nil reader", none)
	byHand := &pack.Reader{}
	if byHand.U(1) != 0 || byHand.Text() != "" || len(byHand.Bytes(1)) != 0 || byHand.Left() != 0 {
		t.Error("a reader that was made by hand has something")
	}
	wantBad(t, "a reader that was made by hand, of which more was asked", byHand)
}

// part is one thing that is put, and read again.
type part struct {
	kind  int
	n     uint64
	width int
	s     string
}

// parts are some, the same ones each time.
func parts(r *rand.Rand) []part {
	l := make([]part, r.Intn(12))
	for i := range l {
		width := 1 + r.Intn(8)
		s := make([]byte, r.Intn(api.MaxText+1))
		r.Read(s)
		l[i] = part{kind: r.Intn(3), n: r.Uint64() >> (64 - 8*width), width: width, s: string(s)}
	}
	return l
}

// P3.3: what was put is read as it was, and of what is cut off the reader is bad.
func TestSameAgain(t *testing.T) {
	r := rand.New(rand.NewSource(7))
	for range 500 {
		l := parts(r)
		var b []byte
		for _, p := range l {
			switch p.kind {
			case 0:
				b = pack.Put(b, p.n, p.width)
			case 1:
				b, _ = pack.Text(b, p.s)
			default:
				b = append(b, p.s...)
			}
		}
		read := pack.New(b)
		for i, p := range l {
			same := false
			switch p.kind {
			case 0:
				same = read.U(p.width) == p.n
			case 1:
				same = read.Text() == p.s
			default:
				same = string(read.Bytes(len(p.s))) == p.s
			}
			if !same || read.Bad() {
				t.Fatalf("part %d of %v is read otherwise", i, l)
			}
		}
		wantGood(t, "all parts", read, 0)
	}
}

// P1: no call panics, whatever bytes and numbers it is given.
func FuzzAll(f *testing.F) {
	f.Add([]byte("\x02abc"), "ab", uint64(258), 2, 1, []byte{0, 1, 2, 3})
	f.Fuzz(func(t *testing.T, b []byte, s string, n uint64, width, many int, calls []byte) {
		if put := pack.Put(b, n, width); !bytes.HasPrefix(put, b) || len(put) != len(b)+width && len(put) != len(b) {
			t.Errorf("Put(%q, %d, %d) = %q", b, n, width, put)
		}
		if put, e := pack.Text(b, s); e == api.OK != (len(s) <= api.MaxText) || e != api.OK && len(put) != 0 {
			t.Errorf("Text(%q, %q) = %q, %d", b, s, put, e)
		}
		r := pack.New(b)
		for _, c := range calls {
			left, bad := r.Left(), r.Bad()
			switch c % 4 {
			case 0:
				r.U(width)
			case 1:
				r.Text()
			case 2:
				r.Bytes(many)
			default:
				r.U(int(c / 16))
			}
			if r.Left() > left || bad && !r.Bad() || r.Bad() && (r.Left() != 0 || r.Done()) {
				t.Fatalf("Left %d, Bad %v; then %d, %v", left, bad, r.Left(), r.Bad())
			}
		}
	})
}
