package queue_test

import (
	"slices"
	"testing"

	"virgate/queue"
)

func TestEach(t *testing.T) {
	for _, l := range [][]string{nil, {}, {"a"}, {"a", "b"}, {"c", "a", "c", "b"}} {
		var did []string
		ends := 0
		var on func()
		queue.Of(l).Each(func(x string, next func()) {
			did = append(did, x)
			on = next
		}, func() { ends++ })
		for k := range l {
			if !slices.Equal(did, l[:k+1]) || ends != 0 {
				t.Fatalf("of %q: did %q, ended %d times behind %d", l, did, ends, k)
			}
			on()
		}
		if !slices.Equal(did, l) || ends != 1 {
			t.Errorf("of %q: did %q, ended %d times", l, did, ends)
		}
	}
}

// Who calls next at once goes on at once; who does not ends it there.
func TestEachAtOnce(t *testing.T) {
	var did []int
	ends := 0
	queue.Of([]int{1, 2, 3, 4, 5}).Each(func(x int, next func()) {
		did = append(did, x)
		if x != 4 {
			next()
		}
	}, func() { ends++ })
	if !slices.Equal(did, []int{1, 2, 3, 4}) || ends != 0 {
		t.Errorf("did %v, ended %d times", did, ends)
	}
}

// What waits is not what is written into the list later, nor is the list changed.
func TestListIsNotKept(t *testing.T) {
	l := []int{1, 2, 3}
	q := queue.Of(l)
	clear(l)
	var did []int
	q.Each(func(x int, next func()) {
		did = append(did, x)
		next()
	}, func() {})
	if !slices.Equal(did, []int{1, 2, 3}) || !slices.Equal(l, []int{0, 0, 0}) {
		t.Errorf("did %v; the list is %v", did, l)
	}
}
