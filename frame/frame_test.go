package frame_test

import (
	"bytes"
	"encoding/binary"
	"hash/crc32"
	"math"
	"math/rand"
	"slices"
	"testing"

	"virgate/api"
	"virgate/frame"
)

// framed tells the frame of p, by other writers of numbers and sums.
func framed(p []byte) []byte {
	b := binary.BigEndian.AppendUint32(nil, uint32(len(p)))
	b = binary.BigEndian.AppendUint32(b, crc32.Checksum(p, crc32.MakeTable(crc32.Castagnoli)))
	return append(b, p...)
}

// headed tells a number, a sum that is wrong of most bytes, and some bytes.
func headed(count uint32, behind string) []byte {
	b := binary.BigEndian.AppendUint32(nil, count)
	return append(append(b, 1, 2, 3, 4), behind...)
}

// some tells n bytes of any kind, the same ones each time.
func some(n int) []byte {
	b := make([]byte, n)
	rand.New(rand.NewSource(int64(n))).Read(b)
	return b
}

// records are of all lengths up to 70, and at the edges.
func records() [][]byte {
	l := [][]byte{{0}, {255}, []byte("a"), make([]byte, 9), framed([]byte("within"))}
	for n := range 70 {
		l = append(l, some(n+1))
	}
	for _, n := range []int{255, 256, 257, 65535, 65536, api.MaxFrame - 1, api.MaxFrame} {
		l = append(l, some(n))
	}
	return l
}

// wantNext holds that Next tells the record p, if e is OK, and nothing else.
func wantNext(t *testing.T, what string, b, p []byte, n int, want api.Errno) {
	t.Helper()
	got, took, e := frame.Next(b)
	if !bytes.Equal(got, p) || took != n || e != want {
		t.Errorf("%s: Next = %.20q, %d, %d; want %.20q, %d, %d", what, got, took, e, p, n, want)
	}
}

// wantAll holds what All tells.
func wantAll(t *testing.T, what string, b []byte, l [][]byte, n int, want api.Errno) {
	t.Helper()
	got, took, e := frame.All(b)
	if !slices.EqualFunc(got, l, bytes.Equal) || took != n || e != want {
		t.Errorf("%s: All = %.80q, %d, %d; want %.80q, %d, %d", what, got, took, e, l, n, want)
	}
}

// P5.1: how many bytes, their sum, both with the highest byte first, and they themselves.
func TestPut(t *testing.T) {
	if b, e := frame.Put([]byte("123456789")); string(b) != "\x00\x00\x00\x09\xE3\x06\x92\x83123456789" || e != api.OK {
		t.Errorf("Put(123456789) = %q, %d", b, e)
	}
	for _, p := range records() {
		if b, e := frame.Put(p); !bytes.Equal(b, framed(p)) || e != api.OK {
			t.Errorf("Put of %d bytes = %.20q, %d; want %.20q", len(p), b, e, framed(p))
		}
	}
}

// P5.1: no bytes are no record, nor are more than MaxFrame.
func TestPutOfNoRecord(t *testing.T) {
	for _, p := range [][]byte{nil, {}, make([]byte, 0, 9), make([]byte, api.MaxFrame+1), make([]byte, api.MaxFrame+2), make([]byte, 1<<24)} {
		if b, e := frame.Put(p); len(b) != 0 || e != api.ErrArg {
			t.Errorf("Put of %d bytes = %.20q, %d; want ErrArg", len(p), b, e)
		}
	}
}

// P5.1: the example, all edges, and numbers that no record has.
func TestSize(t *testing.T) {
	for n, want := range map[int]int{
		1: 9, 2: 10, 8: 16, 255: 263, 65536: 65544, api.MaxFrame - 1: 1<<20 + 7, api.MaxFrame: 1<<20 + 8,
		0: 0, -1: 0, -8: 0, -9: 0, api.MaxFrame + 1: 0, 1 << 21: 0, 1 << 32: 0, 1<<32 + 1: 0, math.MaxInt: 0, math.MaxInt - 8: 0, math.MinInt: 0, math.MinInt + 1: 0,
	} {
		if got := frame.Size(n); got != want {
			t.Errorf("Size(%d) = %d; want %d", n, got, want)
		}
	}
	for _, p := range records() {
		if got := frame.Size(len(p)); got != len(framed(p)) {
			t.Errorf("Size(%d) = %d; want %d", len(p), got, len(framed(p)))
		}
	}
}

// P5.2: the record, whatever stands behind its frame.
func TestNext(t *testing.T) {
	for _, p := range records() {
		b := framed(p)
		wantNext(t, "a frame", b, p, len(b), api.OK)
		wantNext(t, "bytes behind", append(bytes.Clone(b), "\x00\x01"...), p, len(b), api.OK)
		wantNext(t, "a frame behind", append(bytes.Clone(b), b...), p, len(b), api.OK)
	}
}

// P5.2: the first error that applies is told.
func TestNextErrors(t *testing.T) {
	wantNext(t, "nil", nil, nil, 0, api.ErrNone)
	wantNext(t, "no bytes", []byte{}, nil, 0, api.ErrNone)
	for n := 1; n < 8; n++ {
		wantNext(t, "noughts", make([]byte, n), nil, 0, api.ErrMore)
		wantNext(t, "great numbers", bytes.Repeat([]byte{255}, n), nil, 0, api.ErrMore)
		wantNext(t, "a frame", framed([]byte("a"))[:n], nil, 0, api.ErrMore)
	}
	for _, behind := range []string{"", "a", "abcdefgh"} {
		for _, count := range []uint32{0, api.MaxFrame + 1, 1 << 21, 1 << 24, 1<<24 + 1, 1 << 31, 1<<31 + 1, math.MaxUint32} {
			wantNext(t, "no record's number", headed(count, behind), nil, 0, api.ErrForm)
		}
		for _, count := range []uint32{9, 256, 65536, api.MaxFrame - 1, api.MaxFrame} {
			wantNext(t, "fewer behind", headed(count, behind), nil, 0, api.ErrMore)
		}
	}
	wantNext(t, "noughts are no frame", make([]byte, 8), nil, 0, api.ErrForm)
	wantNext(t, "the sum of no bytes", append(make([]byte, 8), "abc"...), nil, 0, api.ErrForm)
	wantNext(t, "one fewer", headed(3, "ab"), nil, 0, api.ErrMore)
	wantNext(t, "just as many", headed(3, "abc"), nil, 0, api.ErrSum)
	long := framed(make([]byte, api.MaxFrame))
	wantNext(t, "one fewer of the longest", long[:len(long)-1], nil, 0, api.ErrMore)
	longer := append(headed(api.MaxFrame+1, ""), make([]byte, api.MaxFrame+1)...)
	wantNext(t, "longer than the longest", longer, nil, 0, api.ErrForm)
}

// P5.2: whichever bit of the sum or of the record is turned, that is told.
func TestNextSum(t *testing.T) {
	for _, p := range [][]byte{{0}, {255}, []byte("abc"), some(60)} {
		b := framed(p)
		for i := 32; i < 8*len(b); i++ {
			turned := bytes.Clone(b)
			turned[i/8] ^= 1 << (i % 8)
			wantNext(t, "a turned bit", turned, nil, 0, api.ErrSum)
			wantAll(t, "a turned bit", turned, nil, 0, api.ErrSum)
		}
	}
	b := framed([]byte("ab"))
	slices.Reverse(b[4:8])
	wantNext(t, "a sum whose lowest byte is first", b, nil, 0, api.ErrSum)
	b = framed([]byte("abc"))
	b[3] = 2
	wantNext(t, "a sum of more bytes", b, nil, 0, api.ErrSum)
}

// P5.2: bytes beyond those that are handed in are not read, even if there is room for them.
func TestRoomBehindIsNotRead(t *testing.T) {
	b := framed([]byte("abcdef"))
	for n := range b {
		want := api.ErrMore
		if n == 0 {
			want = api.ErrNone
		}
		wantNext(t, "a part of a list", b[:n], nil, 0, want)
		wantAll(t, "a part of a list", b[:n], nil, 0, want)
	}
}

// P5.2: all records from the beginning on, up to what is behind, whatever that is.
func TestAll(t *testing.T) {
	var l [][]byte
	var b []byte
	for _, p := range append([][]byte{nil}, records()...) {
		if p != nil {
			l = append(l, p)
			b = append(b, framed(p)...)
		}
		wantAll(t, "frames", b, l, len(b), api.ErrNone)
		for behind, want := range map[string]api.Errno{
			"\x00":                          api.ErrMore,
			"abcdefg":                       api.ErrMore,
			string(headed(5, "abcd")):       api.ErrMore,
			string(headed(0, "")):           api.ErrForm,
			string(headed(1<<20+1, "abcd")): api.ErrForm,
			string(headed(5, "abcde")):      api.ErrSum,
			string(headed(4, "abcde")):      api.ErrSum,
			// What is right behind what is wrong is not told.
			string(append(headed(5, "abcde"), framed([]byte("x"))...)): api.ErrSum,
		} {
			wantAll(t, "frames and more", append(bytes.Clone(b), behind...), l, len(b), want)
		}
	}
	wantAll(t, "nil", nil, nil, 0, api.ErrNone)
}

// P5.3: cut off anywhere, the records whose frames are there whole are told.
func TestTorn(t *testing.T) {
	r := rand.New(rand.NewSource(12))
	for range 20 {
		var b []byte
		var l [][]byte
		ends := []int{0}
		for range r.Intn(8) {
			p := make([]byte, 1+r.Intn(40))
			r.Read(p)
			put, _ := frame.Put(p)
			b, l = append(b, put...), append(l, p)
			ends = append(ends, len(b))
		}
		whole := 0
		for cut := range len(b) + 1 {
			want := api.ErrMore
			if at := slices.Index(ends, cut); at >= 0 {
				whole, want = at, api.ErrNone
			}
			wantAll(t, "torn", b[:cut], l[:whole], ends[whole], want)
		}
	}
}

// P5.1, P5.2: what is handed in is neither changed nor told; what is told shares memory with nothing.
func TestWhatIsToldIsNew(t *testing.T) {
	in := []byte("abcdefghij")
	first, _ := frame.Put(in[:3])
	second, _ := frame.Put(in[:3])
	fill(first)
	if string(in) != "abcdefghij" || !bytes.Equal(second, framed([]byte("abc"))) {
		t.Errorf("what was handed in is %q; what was told is %q", in, second)
	}
	copy(in, "0123456789")
	if !bytes.Equal(second, framed([]byte("abc"))) {
		t.Errorf("what was told is now %q", second)
	}

	b := slices.Concat(framed([]byte("abc")), framed([]byte("de")), framed([]byte("f")))
	was := bytes.Clone(b)
	p, _, _ := frame.Next(b)
	l, _, _ := frame.All(b)
	fill(p)
	fill(l[0])
	if !bytes.Equal(b, was) || string(l[1]) != "de" || string(l[2]) != "f" {
		t.Errorf("what was handed in is %q; what was told is %q", b, l)
	}
	q, _, _ := frame.Next(b)
	fill(b)
	if string(q) != "abc" || string(l[1]) != "de" || string(l[2]) != "f" {
		t.Errorf("what was told is now %q, %q", q, l)
	}
}

// fill writes into all of b, and into the room behind it.
func fill(b []byte) {
	b = b[:cap(b)]
	for i := range b {
		b[i] = '!'
	}
}

// P1: no call panics; and what is told stands where it says.
func FuzzAll(f *testing.F) {
	f.Add([]byte("\x00\x00\x00\x01abcdefgh"), 1)
	f.Add(slices.Concat(framed([]byte("abc")), framed([]byte("de")), []byte{0}), -1)
	f.Fuzz(func(t *testing.T, b []byte, n int) {
		if size := frame.Size(n); (size == 0) != (n < 1 || n > api.MaxFrame) || size != 0 && size != n+8 {
			t.Errorf("Size(%d) = %d", n, size)
		}
		put, e := frame.Put(b)
		if len(put) != frame.Size(len(b)) || (e == api.OK) != (len(put) != 0) {
			t.Errorf("Put(%q) = %q, %d", b, put, e)
		}
		l, n, e := frame.All(b)
		var whole []byte
		for _, p := range l {
			whole = append(whole, framed(p)...)
		}
		if n != len(whole) || !bytes.HasPrefix(b, whole) {
			t.Fatalf("All(%q) = %q, %d, %d", b, l, n, e)
		}
		if p, took, behind := frame.Next(b[n:]); len(p) != 0 || took != 0 || behind != e || e == api.OK {
			t.Errorf("All(%q) = %q, %d, %d; behind it Next = %q, %d, %d", b, l, n, e, p, took, behind)
		}
	})
}
