package redo_test

import (
	"bytes"
	"encoding/binary"
	"fmt"
	"math"
	"math/rand"
	"slices"
	"strconv"
	"strings"
	"testing"

	"virgate/api"
	"virgate/kv"
	"virgate/redo"
)

var (
	longestKey = strings.Repeat("k", 128)
	tooLongKey = strings.Repeat("k", 129)
	longestVal = strings.Repeat("v", 65536)
	tooLongVal = strings.Repeat("v", 65537)
)

// show tells how a thing of any kind looks, as far as that is not too long.
func show(x any) string {
	return fmt.Sprintf("%.300s", fmt.Sprintf("%#v", x))
}

// long tells a long text, by another writer of numbers.
func long(s string) string {
	return string(binary.BigEndian.AppendUint32(nil, uint32(len(s)))) + s
}

func wide(n int64) string {
	return string(binary.BigEndian.AppendUint64(nil, uint64(n)))
}

// effectBytes tells the bytes of an effect, right or not, of that kind.
func effectBytes(kind byte, rev int64, key, val string) string {
	return string([]byte{kind}) + wide(rev) + long(key) + long(val)
}

// stateBytes tells the bytes of a state, that may be or not, that says that it has n items.
func stateBytes(rev int64, n int, l ...kv.Item) string {
	b := wide(rev) + string(binary.BigEndian.AppendUint32(nil, uint32(n)))
	for _, it := range l {
		b += wide(it.Rev) + long(it.Key) + long(it.Val)
	}
	return b
}

// wantPut holds an effect's bytes.
func wantPut(t *testing.T, x kv.Effect, b string, want api.Errno) {
	t.Helper()
	if got, e := redo.Put(x); string(got) != b || e != want {
		t.Errorf("Put(%s) = %.100q, %d; want %.100q, %d", show(x), got, e, b, want)
	}
}

// wantRead holds what effect is read.
func wantRead(t *testing.T, what, b string, x kv.Effect, want api.Errno) {
	t.Helper()
	if got, e := redo.Read([]byte(b)); got != x || e != want {
		t.Errorf("%s: Read(%.100q) = %s, %d; want %s, %d", what, b, show(got), e, show(x), want)
	}
}

// of tells a state that may be.
func of(t *testing.T, rev int64, l ...kv.Item) *kv.State {
	t.Helper()
	s, e := kv.Of(rev, l)
	if e != api.OK {
		t.Fatalf("Of(%d, %s) = %d", rev, show(l), e)
	}
	return s
}

// wantNoState holds that no state is read.
func wantNoState(t *testing.T, what, b string) {
	t.Helper()
	if s, e := redo.ReadState([]byte(b)); s != nil || e != api.ErrForm {
		t.Errorf("%s: ReadState(%.100q) = %d, a state: %v; want %d", what, b, e, s != nil, api.ErrForm)
	}
}

// P10.1: the example.
func TestExample(t *testing.T) {
	b, e := redo.Put(kv.Effect{Key: "a", Rev: 1})
	if len(b) != 1+8+5+4 || e != api.OK {
		t.Errorf("Put = %q, %d", b, e)
	}
}

// right are effects that are right, with the bytes they have.
func right() map[kv.Effect]string {
	return map[kv.Effect]string{
		{Key: "a", Rev: 1}:                                        "\x01\x00\x00\x00\x00\x00\x00\x00\x01\x00\x00\x00\x01a\x00\x00\x00\x00",
		{Key: "a", Rev: 1, Gone: true}:                            "\x02\x00\x00\x00\x00\x00\x00\x00\x01\x00\x00\x00\x01a\x00\x00\x00\x00",
		{Key: "ab", Val: "xyz", Rev: 0x0102030405060708}:          "\x01\x01\x02\x03\x04\x05\x06\x07\x08\x00\x00\x00\x02ab\x00\x00\x00\x03xyz",
		{Key: "\x00", Val: "\xff\x00", Rev: math.MaxInt64}:        effectBytes(1, math.MaxInt64, "\x00", "\xff\x00"),
		{Key: "\xff", Rev: math.MaxInt64, Gone: true}:             effectBytes(2, math.MaxInt64, "\xff", ""),
		{Key: longestKey, Val: longestVal, Rev: 1 << 32}:          effectBytes(1, 1<<32, longestKey, longestVal),
		{Key: longestKey, Rev: 255, Gone: true}:                   effectBytes(2, 255, longestKey, ""),
		{Key: "long", Val: strings.Repeat("\x01", 258), Rev: 258}: effectBytes(1, 258, "long", strings.Repeat("\x01", 258)),
	}
}

// P10.1, P10.3: bytes of right effects, and back.
func TestEffects(t *testing.T) {
	for x, b := range right() {
		wantPut(t, x, b, api.OK)
		wantRead(t, "right", b, x, api.OK)
	}
}

// P10.1: effects that are not right have no bytes, and can't be read of what would be theirs.
func TestEffectsThatAreNotRight(t *testing.T) {
	for what, x := range map[string]kv.Effect{
		"nothing":                 {},
		"gone, and nothing else":  {Gone: true},
		"an empty key":            {Val: "x", Rev: 1},
		"too long a key":          {Key: tooLongKey, Rev: 1},
		"too long a value":        {Key: "a", Val: tooLongVal, Rev: 1},
		"revision 0":              {Key: "a", Val: "x"},
		"a revision below 0":      {Key: "a", Rev: -1},
		"the least revision":      {Key: "a", Rev: math.MinInt64},
		"gone, an empty key":      {Rev: 1, Gone: true},
		"gone, too long a key":    {Key: tooLongKey, Rev: 1, Gone: true},
		"gone, with a value":      {Key: "a", Val: "x", Rev: 1, Gone: true},
		"gone, too long a value":  {Key: "a", Val: tooLongVal, Rev: 1, Gone: true},
		"gone, revision 0":        {Key: "a", Gone: true},
		"gone, a revision before": {Key: "a", Rev: -7, Gone: true},
	} {
		wantPut(t, x, "", api.ErrArg)
		var kind byte = 1
		if x.Gone {
			kind = 2
		}
		wantRead(t, what, effectBytes(kind, x.Rev, x.Key, x.Val), kv.Effect{}, api.ErrForm)
	}
}

// P10.1: bytes that are more, fewer or others than an effect's.
func TestReadRefused(t *testing.T) {
	for _, b := range right() {
		for n := range min(len(b), 300) {
			wantRead(t, "cut off", b[:n], kv.Effect{}, api.ErrForm)
			wantRead(t, "the end alone", b[n+1:], kv.Effect{}, api.ErrForm)
		}
		for _, more := range []string{"\x00", "x", "\x00\x00\x00\x00", b} {
			wantRead(t, "more behind", b+more, kv.Effect{}, api.ErrForm)
		}
		wantRead(t, "the last byte missing", b[:len(b)-1], kv.Effect{}, api.ErrForm)
	}
	for kind := range 256 {
		if kind != 1 && kind != 2 {
			wantRead(t, "a kind that there isn't", effectBytes(byte(kind), 1, "a", ""), kv.Effect{}, api.ErrForm)
		}
	}
	head := "\x01" + wide(1)
	for what, b := range map[string]string{
		"no bytes":             "",
		"a key of too many":    head + "\x00\x00\x00\x06a\x00\x00\x00\x00",
		"a key of all":         head + "\x00\x00\x00\x05a\x00\x00\x00\x00",
		"a key of 2^32-1":      head + "\xff\xff\xff\xffa\x00\x00\x00\x00",
		"a key of 2^31":        head + "\x80\x00\x00\x00a\x00\x00\x00\x00",
		"a value of too many":  head + "\x00\x00\x00\x01a\x00\x00\x00\x02x",
		"a value of too few":   head + "\x00\x00\x00\x01a\x00\x00\x00\x01xy",
		"a value of 2^32-1":    head + "\x00\x00\x00\x01a\xff\xff\xff\xffx",
		"lowest bytes first":   "\x01\x01\x00\x00\x00\x00\x00\x00\x00\x01\x00\x00\x00a\x00\x00\x00\x00",
		"texts, not long ones": head + "\x01a\x00",
		"a revision of 2^63":   "\x01\x80\x00\x00\x00\x00\x00\x00\x00" + long("a") + long(""),
		"a revision of 2^64-1": "\x01\xff\xff\xff\xff\xff\xff\xff\xff" + long("a") + long(""),
	} {
		wantRead(t, what, b, kv.Effect{}, api.ErrForm)
	}
}

// P10.2: bytes of states, and back.
func TestStates(t *testing.T) {
	many := []kv.Item{}
	for i := range 300 {
		many = append(many, kv.Item{Key: "k" + strconv.Itoa(1000+i), Val: strings.Repeat("v", i), Rev: int64(300 - i)})
	}
	for _, c := range []struct {
		rev int64
		l   []kv.Item
	}{
		{0, nil},
		{258, nil},
		{math.MaxInt64, nil},
		{1, []kv.Item{{Key: "a", Rev: 1}}},
		{math.MaxInt64, []kv.Item{{Key: "a", Rev: math.MaxInt64}, {Key: "b", Val: "x", Rev: 1}}},
		{9, []kv.Item{{Key: "\x00", Val: "\xff", Rev: 9}, {Key: "B", Rev: 9}, {Key: "a", Rev: 2}, {Key: "aa", Rev: 1}, {Key: "\xff", Val: "\x00", Rev: 4}}},
		{7, []kv.Item{{Key: longestKey, Val: longestVal, Rev: 3}}},
		{300, many},
	} {
		s, want := of(t, c.rev, c.l...), stateBytes(c.rev, len(c.l), c.l...)
		b, e := redo.PutState(s)
		if string(b) != want || e != api.OK {
			t.Errorf("PutState = %.100q, %d; want %.100q", b, e, want)
		}
		if u, e := redo.ReadState([]byte(want)); e != api.OK || !kv.Same(s, u) || !slices.Equal(u.All(), c.l) {
			t.Errorf("ReadState(%.100q) = %s, %d", want, show(u.All()), e)
		}
	}
	two := "\x00\x00\x00\x00\x00\x00\x00\x07\x00\x00\x00\x02" +
		"\x00\x00\x00\x00\x00\x00\x00\x03\x00\x00\x00\x01a\x00\x00\x00\x01x" +
		"\x00\x00\x00\x00\x00\x00\x00\x07\x00\x00\x00\x01b\x00\x00\x00\x00"
	if b, e := redo.PutState(of(t, 7, kv.Item{Key: "a", Val: "x", Rev: 3}, kv.Item{Key: "b", Rev: 7})); string(b) != two || e != api.OK {
		t.Errorf("PutState of two = %q, %d; want %q", b, e, two)
	}
}

// P10.2: of a nil state ErrNil; of one that is made by hand, or was written to, what it has.
func TestPutState(t *testing.T) {
	if b, e := redo.PutState(nil); len(b) != 0 || e != api.ErrNil {
		t.Errorf("PutState(nil) = %q, %d", b, e)
	}
	s := &kv.State{}
	for _, want := range []string{
		stateBytes(0, 0),
		stateBytes(1, 1, kv.Item{Key: "b", Val: "x", Rev: 1}),
		stateBytes(2, 2, kv.Item{Key: "a", Rev: 2}, kv.Item{Key: "b", Val: "x", Rev: 1}),
		stateBytes(3, 1, kv.Item{Key: "a", Rev: 2}),
	} {
		if b, e := redo.PutState(s); string(b) != want || e != api.OK {
			t.Errorf("PutState = %q, %d; want %q", b, e, want)
		}
		switch s.Rev() {
		case 0:
			s.Do(kv.Op{Kind: kv.Create, Key: "b", Val: "x"})
		case 1:
			s.Do(kv.Op{Kind: kv.Create, Key: "a"})
		case 2:
			s.Do(kv.Op{Kind: kv.Delete, Key: "b", Rev: 1})
		}
	}
}

// P10.2: bytes that are more, fewer or others than a state's.
func TestReadStateRefused(t *testing.T) {
	a, b, c := kv.Item{Key: "a", Val: "x", Rev: 3}, kv.Item{Key: "b", Rev: 7}, kv.Item{Key: "c", Val: "zz", Rev: 1}
	for _, whole := range []string{stateBytes(0, 0), stateBytes(7, 1, b), stateBytes(7, 3, a, b, c)} {
		for n := range len(whole) {
			wantNoState(t, "cut off", whole[:n])
		}
		for _, more := range []string{"\x00", "x", whole, wide(1) + long("z") + long("")} {
			wantNoState(t, "more behind", whole+more)
		}
	}
	for what, bad := range map[string]string{
		"no bytes":                 "",
		"one item too few":         stateBytes(7, 3, a, b),
		"one item too many":        stateBytes(7, 1, a, b),
		"none said, one there":     stateBytes(7, 0, a),
		"2^32-1 items":             stateBytes(7, math.MaxUint32, a, b),
		"2^31 items":               stateBytes(7, 1<<31),
		"a revision below 0":       stateBytes(-1, 0),
		"the least revision":       stateBytes(math.MinInt64, 0),
		"keys that fall":           stateBytes(7, 2, b, a),
		"a key that comes again":   stateBytes(7, 2, a, a),
		"revision 0":               stateBytes(7, 1, kv.Item{Key: "a"}),
		"an item below revision 0": stateBytes(7, 1, kv.Item{Key: "a", Rev: -1}),
		"a revision not yet":       stateBytes(7, 1, kv.Item{Key: "a", Rev: 8}),
		"an item at revision 0":    stateBytes(0, 1, kv.Item{Key: "a"}),
		"an empty key":             stateBytes(7, 1, kv.Item{Rev: 1}),
		"too long a key":           stateBytes(7, 1, kv.Item{Key: tooLongKey, Rev: 1}),
		"too long a value":         stateBytes(7, 1, kv.Item{Key: "a", Val: tooLongVal, Rev: 1}),
		"the last one is wrong":    stateBytes(7, 3, a, b, kv.Item{Key: "c", Rev: 8}),
		"a key of 2^32-1":          stateBytes(7, 1) + wide(1) + "\xff\xff\xff\xffa" + long(""),
		"a value of too many":      stateBytes(7, 1) + wide(1) + long("a") + "\x00\x00\x00\x02x",
	} {
		wantNoState(t, what, bad)
	}
}

// P1: a number of items that is wrong takes no longer than the bytes that are there; nor does a great state take longer than its bytes.
func TestEnds(t *testing.T) {
	for range 1000 {
		wantNoState(t, "2^32-1 items", stateBytes(7, math.MaxUint32))
	}
	var l []kv.Item
	for i := range 50000 {
		l = append(l, kv.Item{Key: strconv.Itoa(100000 + i), Val: "a value", Rev: 1})
	}
	s := of(t, 1, l...)
	b, e := redo.PutState(s)
	if e != api.OK || len(b) != 12+len(l)*(8+4+6+4+7) {
		t.Fatalf("PutState = %d bytes, %d", len(b), e)
	}
	if u, e := redo.ReadState(b); e != api.OK || !kv.Same(s, u) {
		t.Errorf("ReadState = %d", e)
	}
}

// anyText tells a text of few bytes, often the same one.
func anyText(r *rand.Rand) string {
	b := make([]byte, r.Intn(4))
	for i := range b {
		b[i] = "\x00\x01a"[r.Intn(3)]
	}
	return string(b)
}

// P10.3: what is read is what was put, and others have other bytes.
func TestOthersHaveOtherBytes(t *testing.T) {
	r := rand.New(rand.NewSource(10))
	effects := map[string]kv.Effect{}
	for range 20000 {
		x := kv.Effect{Key: anyText(r), Val: anyText(r), Rev: int64(r.Intn(4)), Gone: r.Intn(3) == 0}
		b, e := redo.Put(x)
		if right := x.Key != "" && x.Rev > 0 && !(x.Gone && x.Val != ""); right != (e == api.OK) {
			t.Fatalf("Put(%s) = %d", show(x), e)
		}
		if e != api.OK {
			continue
		}
		if other, there := effects[string(b)]; there && other != x {
			t.Fatalf("%s and %s have the same bytes %q", show(x), show(other), b)
		}
		effects[string(b)] = x
		wantRead(t, "put", string(b), x, api.OK)
	}
	if len(effects) < 1000 {
		t.Errorf("but %d effects", len(effects))
	}
	states := map[string]*kv.State{}
	for range 2000 {
		s := kv.New()
		for range r.Intn(5) {
			s.Do(kv.Op{Kind: kv.Create, Key: anyText(r), Val: anyText(r)})
		}
		b, _ := redo.PutState(s)
		if other, there := states[string(b)]; there && !kv.Same(other, s) {
			t.Fatalf("%s and %s have the same bytes %q", show(s.All()), show(other.All()), b)
		}
		states[string(b)] = s
		if u, e := redo.ReadState(b); e != api.OK || !kv.Same(s, u) {
			t.Fatalf("ReadState(%q) = %s, %d; want %s", b, show(u.All()), e, show(s.All()))
		}
	}
}

// P1: what is handed in is neither changed nor kept; what is told is new.
func TestListsAreAlone(t *testing.T) {
	x := kv.Effect{Key: "abc", Val: "xyz", Rev: 5}
	s := of(t, 7, kv.Item{Key: "abc", Val: "xyz", Rev: 5})
	b, _ := redo.Put(x)
	c, _ := redo.PutState(s)
	room := append(slices.Clone(b), "more"...)
	got, _ := redo.Read(room[:len(b)])
	u, _ := redo.ReadState(c)
	if string(room) != string(b)+"more" || string(c) != stateBytes(7, 1, s.All()...) {
		t.Errorf("what was handed in is %q, %q", room, c)
	}
	for _, told := range [][]byte{b, c, room} {
		for i := range told {
			told[i] = '!'
		}
	}
	if got != x || !kv.Same(u, s) {
		t.Errorf("written into what was handed in: %s, %s", show(got), show(u.All()))
	}
	wantPut(t, x, effectBytes(1, 5, "abc", "xyz"), api.OK)
	s.Do(kv.Op{Kind: kv.Delete, Key: "abc", Rev: 5})
	if u.Len() != 1 || u.Rev() != 7 {
		t.Errorf("what was read is at %d: %s", u.Rev(), show(u.All()))
	}
}

// P1, P10.1, P10.2: whatever the bytes, reading ends, and what is read has just these.
func FuzzRead(f *testing.F) {
	f.Add([]byte(effectBytes(1, 1, "a", "x")))
	f.Add([]byte(effectBytes(2, 3, "ab", "")))
	f.Add([]byte(stateBytes(7, 1, kv.Item{Key: "a", Rev: 3})))
	f.Add([]byte(stateBytes(0, 0)))
	f.Add([]byte{})
	f.Fuzz(func(t *testing.T, b []byte) {
		if x, e := redo.Read(b); e == api.OK {
			wantPut(t, x, string(b), api.OK)
		} else if e != api.ErrForm || x != (kv.Effect{}) {
			t.Errorf("Read = %s, %d", show(x), e)
		}
		s, e := redo.ReadState(b)
		if e != api.OK {
			if e != api.ErrForm || s != nil {
				t.Errorf("ReadState = %d, a state: %v", e, s != nil)
			}
			return
		}
		if c, e := redo.PutState(s); e != api.OK || !bytes.Equal(c, b) {
			t.Errorf("PutState = %q, %d; read was %q", c, e, b)
		}
	})
}

// P1, P10.1, P10.3: whatever the effect, Put ends, and what it tells is read as that.
func FuzzPut(f *testing.F) {
	f.Add("a", "x", int64(1), false)
	f.Add("a", "", int64(9), true)
	f.Add("", "", int64(-1), true)
	f.Fuzz(func(t *testing.T, key, val string, rev int64, gone bool) {
		x := kv.Effect{Key: key, Val: val, Rev: rev, Gone: gone}
		b, e := redo.Put(x)
		if e == api.OK {
			wantRead(t, "put", string(b), x, api.OK)
		} else if e != api.ErrArg || len(b) != 0 {
			t.Errorf("Put = %q, %d", b, e)
		}
	})
}
