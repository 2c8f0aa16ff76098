package bits_test

import (
	"math"
	"math/rand"
	"slices"
	"testing"

	"virgate/bits"
)

// noSlots are numbers that are no slots.
var noSlots = []int{-1, -2, -63, -64, -65, 64, 65, 66, 127, 128, 129, 255, 256, 1 << 32, 1<<32 + 1, -1 << 32, math.MaxInt, math.MaxInt - 1, math.MinInt, math.MinInt + 1}

// in tells by a division, not by a shift, whether the slot i is in s.
func in(s bits.Set, i int) bool {
	n := uint64(s)
	for range i {
		n /= 2
	}
	return n%2 == 1
}

// slots tells the slots in s, rising.
func slots(s bits.Set) []int {
	var l []int
	for i := range 64 {
		if in(s, i) {
			l = append(l, i)
		}
	}
	return l
}

// worth tells the set of l, all of them slots, by adding up what each is worth.
func worth(l []int) bits.Set {
	var n uint64
	for i := range 64 {
		if slices.Contains(l, i) {
			w := uint64(1)
			for range i {
				w *= 2
			}
			n += w
		}
	}
	return bits.Set(n)
}

// sets are some at the edges, all small ones, and any others, thin and thick.
func sets() []bits.Set {
	l := []bits.Set{1 << 63, 1<<64 - 1, 1<<64 - 2, 1<<63 - 1, 1<<63 + 1, 0x5555555555555555, 0xAAAAAAAAAAAAAAAA, 0xFFFFFFFF, 0xFFFFFFFF00000000, 3 << 62, 1<<63 | 1<<32 | 1<<31 | 1}
	for i := range 64 {
		l = append(l, 1<<i, 1<<i-1, ^bits.Set(1<<i), ^bits.Set(1<<i-1))
	}
	for s := range 256 {
		l = append(l, bits.Set(s), bits.Set(s)<<56, bits.Set(s)<<28)
	}
	chance := rand.New(rand.NewSource(14))
	for range 400 {
		a, b, c := chance.Uint64(), chance.Uint64(), chance.Uint64()
		l = append(l, bits.Set(a), bits.Set(a&b&c), bits.Set(a|b|c))
	}
	return l
}

// P14.1: the set of those that are slots, however many, in any order, told again.
func TestOf(t *testing.T) {
	if bits.Of() != 0 || bits.Of(nil...) != 0 || bits.Of(0) != 1 || bits.Of(63) != 1<<63 || bits.Of(5, 1, 2, 5, 1) != 38 {
		t.Error("Of", bits.Of(), bits.Of(0), bits.Of(63), bits.Of(5, 1, 2, 5, 1))
	}
	if s := bits.Of(noSlots...); s != 0 {
		t.Errorf("Of what is no slot = %b", s)
	}
	chance := rand.New(rand.NewSource(15))
	for range 500 {
		var l []int
		for range chance.Intn(200) {
			l = append(l, chance.Intn(100)-18)
		}
		if len(l) > 3 {
			l[1], l[2] = math.MaxInt, math.MinInt
		}
		before := slices.Clone(l)
		s := bits.Of(l...)
		if s != worth(l) || !slices.Equal(l, before) {
			t.Errorf("Of(%v) = %b; want %b", before, s, worth(before))
		}
		slices.Reverse(l)
		if bits.Of(l...) != s {
			t.Errorf("Of(%v) = %b; want %b", l, bits.Of(l...), s)
		}
	}
}

// P14.1: the slots below n: none below 0, all of them from 64 on.
func TestAll(t *testing.T) {
	for n := -200; n <= 200; n++ {
		var l []int
		for i := range 64 {
			if i < n {
				l = append(l, i)
			}
		}
		if s := bits.All(n); s != worth(l) {
			t.Errorf("All(%d) = %b; want %b", n, s, worth(l))
		}
	}
	for n, want := range map[int]bits.Set{math.MinInt: 0, math.MinInt + 1: 0, -1 << 32: 0, math.MaxInt: 1<<64 - 1, math.MaxInt - 1: 1<<64 - 1, 1 << 32: 1<<64 - 1, 1<<32 + 3: 1<<64 - 1} {
		if s := bits.All(n); s != want {
			t.Errorf("All(%d) = %b; want %b", n, s, want)
		}
	}
}

// P14.1: a set's slots, rising, and how many; Of has them again.
func TestList(t *testing.T) {
	for _, s := range sets() {
		if l := s.List(); !slices.Equal(l, slots(s)) || s.Len() != len(l) || bits.Of(l...) != s {
			t.Errorf("%b: List %v, Len %d; want %v", s, l, s.Len(), slots(s))
		}
	}
}

// P14.1: is it a slot in the set?
func TestHas(t *testing.T) {
	for _, s := range sets() {
		for i := range 64 {
			if s.Has(i) != in(s, i) {
				t.Errorf("%b: Has(%d) = %v", s, i, s.Has(i))
			}
		}
		for _, i := range noSlots {
			if s.Has(i) {
				t.Errorf("%b has %d", s, i)
			}
		}
	}
}

// P14.1: with a slot in it, without one; of what is no slot, the set as it is.
func TestWith(t *testing.T) {
	for _, s := range sets() {
		for i := range 64 {
			l := slots(s)
			more := worth(append(slices.Clone(l), i))
			fewer := worth(slices.DeleteFunc(l, func(j int) bool { return j == i }))
			if s.With(i) != more || s.Without(i) != fewer {
				t.Errorf("%b: With(%d) = %b, Without %b", s, i, s.With(i), s.Without(i))
			}
		}
		for _, i := range noSlots {
			if s.With(i) != s || s.Without(i) != s {
				t.Errorf("%b: With(%d) = %b, Without %b", s, i, s.With(i), s.Without(i))
			}
		}
	}
}

// P14.2: the least slot, the greatest one.
func TestLowHigh(t *testing.T) {
	for _, s := range sets() {
		low, some := s.Low()
		high, too := s.High()
		if s == 0 {
			if low != 0 || some || high != 0 || too {
				t.Error("of none: Low", low, some, "High", high, too)
			}
			continue
		}
		if l := slots(s); low != l[0] || !some || high != l[len(l)-1] || !too {
			t.Errorf("%b: Low %d, %v, High %d, %v", s, low, some, high, too)
		}
	}
}

// P14.2: the k-th slot, from 0 on; 0, false, if there is none.
func TestNth(t *testing.T) {
	for _, s := range sets() {
		l := slots(s)
		for k, i := range l {
			if got, ok := s.Nth(k); got != i || !ok {
				t.Errorf("%b: Nth(%d) = %d, %v; want %d", s, k, got, ok, i)
			}
		}
		for _, k := range append([]int{len(l), len(l) + 1}, noSlots...) {
			if got, ok := s.Nth(k); got != 0 || ok {
				t.Errorf("%b: Nth(%d) = %d, %v; want none", s, k, got, ok)
			}
		}
	}
}

// runs tells the runs of s, by asking for each slot whether one begins or ends there.
func runs(s bits.Set) [][2]int {
	var l [][2]int
	for i := range 65 {
		here, ahead := i < 64 && in(s, i), i > 0 && in(s, i-1)
		if here && !ahead {
			l = append(l, [2]int{i, 0})
		}
		if !here && ahead {
			l[len(l)-1][1] = i
		}
	}
	return l
}

// P14.2: the runs, rising; a run may be all slots, and may end at the last one.
func TestRuns(t *testing.T) {
	if l := bits.Of(1, 2, 5).Runs(); !slices.Equal(l, [][2]int{{1, 3}, {5, 6}}) {
		t.Error("Runs of 1, 2, 5:", l)
	}
	if l := bits.All(64).Runs(); !slices.Equal(l, [][2]int{{0, 64}}) {
		t.Error("Runs of all:", l)
	}
	for _, s := range sets() {
		if l := s.Runs(); !slices.Equal(l, runs(s)) {
			t.Errorf("%b: Runs %v; want %v", s, l, runs(s))
		}
	}
}

// P14.1, P14.2: what is written into a list that was told is in no later one.
func TestNothingShared(t *testing.T) {
	s := bits.Of(1, 2, 5)
	l, r := s.List(), s.Runs()
	l[0], r[0] = 7, [2]int{7, 7}
	if !slices.Equal(s.List(), []int{1, 2, 5}) || !slices.Equal(s.Runs(), [][2]int{{1, 3}, {5, 6}}) {
		t.Error("what was told has changed", s.List(), s.Runs())
	}
}
