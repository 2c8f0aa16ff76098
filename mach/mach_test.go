package mach_test

import (
	"math"
	"slices"
	"strconv"
	"testing"

	"virgate/api"
	"virgate/kv"
	"virgate/mach"
)

func get(key string) kv.Op { return kv.Op{Kind: kv.Get, Key: key} }

// full is an Op of which no part is its zero value.
var full = kv.Op{Kind: kv.Update, Key: "k", Val: "v", Rev: 3, If: "i", IfRev: 4}

// told tells a Result of which no part is its zero value.
func told() kv.Result {
	return kv.Result{Code: api.ErrStale, Rev: 7, Val: "x", Items: []kv.Item{{Key: "a", Val: "b", Rev: 5}, {Key: "c"}}}
}

func same(a, b kv.Result) bool {
	return a.Code == b.Code && a.Rev == b.Rev && a.Val == b.Val && slices.Equal(a.Items, b.Items)
}

// wantOp holds what a procedure asks.
func wantOp(t *testing.T, what string, p *mach.Proc, want kv.Op) {
	t.Helper()
	for range 2 {
		if o, asks := p.Op(); !asks || o != want {
			t.Errorf("%s: Op tells %+v, %v; want %+v", what, o, asks, want)
		}
	}
}

// wantIdle holds that a procedure asks nothing, and takes nothing.
func wantIdle(t *testing.T, what string, p *mach.Proc) {
	t.Helper()
	steps := p.Steps()
	if o, asks := p.Op(); asks || o != (kv.Op{}) {
		t.Errorf("%s: Op tells %+v, %v; want nothing", what, o, asks)
	}
	if p.Feed(told()) || p.Steps() != steps {
		t.Errorf("%s: it is fed, though it asks nothing", what)
	}
}

func wantSteps(t *testing.T, what string, p *mach.Proc, want int) {
	t.Helper()
	if n := p.Steps(); n != want {
		t.Errorf("%s: %d Steps; want %d", what, n, want)
	}
}

func TestNew(t *testing.T) {
	wantIdle(t, "a new one", mach.New())
	wantSteps(t, "a new one", mach.New(), 0)
	a, b := mach.New(), mach.New()
	a.Ask(full, nil)
	wantIdle(t, "another new one", b)
}

func TestMadeByHand(t *testing.T) {
	var p mach.Proc
	wantIdle(t, "made by hand", &p)
	p.Ask(full, nil)
	wantOp(t, "made by hand", &p, full)
}

func TestNil(t *testing.T) {
	var p *mach.Proc
	p.Ask(full, func(kv.Result) { t.Error("what goes on of none is called") })
	wantIdle(t, "none", p)
	wantSteps(t, "none", p, 0)
	do := func(kv.Op) kv.Result {
		t.Error("of none something is asked")
		return kv.Result{}
	}
	for _, most := range []int{math.MinInt, -1, 0, 1, math.MaxInt} {
		if !mach.Run(p, do, most) || !mach.Run(p, nil, most) {
			t.Errorf("Run of none, %d: false", most)
		}
	}
}

func TestAskAndFeed(t *testing.T) {
	p, times := mach.New(), 0
	p.Ask(full, func(r kv.Result) {
		times++
		if !same(r, told()) {
			t.Errorf("told %+v", r)
		}
		wantIdle(t, "while it goes on", p)
	})
	wantOp(t, "asked", p, full)
	wantSteps(t, "asked", p, 0)
	if times != 0 {
		t.Error("it goes on ahead of being fed")
	}
	if !p.Feed(told()) || times != 1 {
		t.Errorf("Feed: called %d times", times)
	}
	wantIdle(t, "fed", p)
	wantSteps(t, "fed", p, 1)
	if times != 1 {
		t.Errorf("called %d times", times)
	}
}

func TestAskInPlaceOfAnother(t *testing.T) {
	p, l := mach.New(), ""
	p.Ask(get("a"), func(kv.Result) { l += "a" })
	p.Ask(get("b"), func(kv.Result) { l += "b" })
	wantOp(t, "asked anew", p, get("b"))
	p.Feed(told())
	wantIdle(t, "asked anew, and fed", p)
	if l != "b" {
		t.Errorf("went on by %q; want b", l)
	}
	p.Ask(get("a"), func(kv.Result) { l += "a" })
	p.Ask(get("b"), nil)
	p.Feed(told())
	if l != "b" {
		t.Errorf("went on by %q, though nothing goes on", l)
	}
	wantSteps(t, "asked anew", p, 2)
}

// What is asked is asked, be it what it may: a kind that is none, nothing at all.
func TestAskAnything(t *testing.T) {
	for _, o := range []kv.Op{{}, {Kind: -1}, {Kind: math.MaxInt, Rev: math.MinInt64}, {Key: "\xff\x00"}} {
		p := mach.New()
		p.Ask(o, nil)
		wantOp(t, "anything", p, o)
		if !p.Feed(kv.Result{}) {
			t.Error("anything: not fed")
		}
		wantIdle(t, "anything, fed", p)
		wantSteps(t, "anything, fed", p, 1)
	}
}

func TestAskAgain(t *testing.T) {
	p, n := mach.New(), 0
	var on func(r kv.Result)
	on = func(r kv.Result) {
		n++
		if r.Rev != int64(n) {
			t.Errorf("told %d at the step %d", r.Rev, n)
		}
		if n < 5 {
			p.Ask(get(strconv.Itoa(n)), on)
		}
	}
	p.Ask(get("0"), on)
	for k := range 5 {
		wantOp(t, "again", p, get(strconv.Itoa(k)))
		wantSteps(t, "again", p, k)
		if !p.Feed(kv.Result{Rev: int64(k + 1)}) {
			t.Errorf("the step %d: not fed", k)
		}
	}
	wantIdle(t, "at the end", p)
	wantSteps(t, "at the end", p, 5)
}

// Whoever is fed while it goes on has had two steps behind it.
func TestFeedWhileGoingOn(t *testing.T) {
	p, l := mach.New(), ""
	p.Ask(get("a"), func(kv.Result) {
		p.Ask(get("b"), func(r kv.Result) { l += r.Val })
		if !p.Feed(kv.Result{Val: "y"}) {
			t.Error("fed while it goes on: false")
		}
	})
	if !p.Feed(kv.Result{Val: "x"}) || l != "y" {
		t.Errorf("told %q", l)
	}
	wantIdle(t, "behind both", p)
	wantSteps(t, "behind both", p, 2)
}

// A procedure may keep what it was told: neither side writes into the other one's list.
func TestItemsAreNotShared(t *testing.T) {
	p, r := mach.New(), told()
	r.Items = slices.Grow(r.Items, 5)
	var kept []kv.Item
	p.Ask(get("a"), func(r kv.Result) { kept = r.Items })
	p.Feed(r)
	r.Items[0].Key = "changed"
	if !slices.Equal(kept, told().Items) {
		t.Errorf("what is kept has changed: %v", kept)
	}
	r = told()
	p.Ask(get("a"), func(r kv.Result) {
		r.Items[0].Key = "changed"
		_ = append(r.Items[:1], kv.Item{})
	})
	p.Feed(r)
	if !same(r, told()) {
		t.Errorf("what was handed in has changed: %v", r)
	}
}

// A panic of what goes on goes on; by then the procedure asks nothing.
func TestPanicGoesOn(t *testing.T) {
	p := mach.New()
	p.Ask(get("a"), func(kv.Result) { panic("its own") })
	func() {
		defer func() {
			if x := recover(); x != "its own" {
				t.Errorf("the panic is %v", x)
			}
		}()
		p.Feed(told())
	}()
	wantIdle(t, "behind a panic", p)
}

// endless tells a procedure that asks n, from 0 on, ever more.
func endless() *mach.Proc {
	p, n := mach.New(), 0
	var on func(r kv.Result)
	on = func(kv.Result) {
		n++
		p.Ask(get(strconv.Itoa(n)), on)
	}
	p.Ask(get("0"), on)
	return p
}

func TestRunAtMost(t *testing.T) {
	for _, most := range []int{math.MinInt, -1, 0, 1, 2, 1000} {
		p, asked := endless(), 0
		do := func(o kv.Op) kv.Result {
			if o != get(strconv.Itoa(asked)) {
				t.Errorf("at most %d: asked %+v at the step %d", most, o, asked)
			}
			asked++
			return kv.Result{}
		}
		if mach.Run(p, do, most) {
			t.Errorf("at most %d: true, though it asks something", most)
		}
		wantOp(t, "behind Run", p, get(strconv.Itoa(max(most, 0))))
		wantSteps(t, "behind Run", p, max(most, 0))
		if asked != max(most, 0) {
			t.Errorf("at most %d: asked %d times", most, asked)
		}
	}
}

// times tells a procedure that asks so many times, and where it is told what it was told.
func times(n int) (*mach.Proc, *[]string) {
	p, l := mach.New(), &[]string{}
	var on func(r kv.Result)
	on = func(r kv.Result) {
		*l = append(*l, r.Val)
		if len(*l) < n {
			p.Ask(get(strconv.Itoa(len(*l))), on)
		}
	}
	if n > 0 {
		p.Ask(get("0"), on)
	}
	return p, l
}

func TestRunToTheEnd(t *testing.T) {
	for n := range 5 {
		for _, most := range []int{0, 1, 2, 3, 4, 5, math.MaxInt} {
			p, l := times(n)
			done := mach.Run(p, func(o kv.Op) kv.Result { return kv.Result{Val: "told " + o.Key} }, most)
			if done != (n <= most) {
				t.Errorf("%d times, at most %d: %v", n, most, done)
			}
			wantSteps(t, "Run", p, min(n, most))
			for k, s := range *l {
				if s != "told "+strconv.Itoa(k) {
					t.Errorf("%d times, at most %d: told %q", n, most, *l)
				}
			}
		}
	}
}

func TestRunOfNoDo(t *testing.T) {
	for _, most := range []int{-1, 0, 9, math.MaxInt} {
		if p, _ := times(0); !mach.Run(p, nil, most) {
			t.Error("without do, of one that asks nothing: false")
		}
		p, l := times(1)
		if mach.Run(p, nil, most) || len(*l) != 0 {
			t.Errorf("without do, of one that asks something: told %q", *l)
		}
		wantOp(t, "without do", p, get("0"))
		wantSteps(t, "without do", p, 0)
	}
}

// The example: of a Get, whose then asks a List: two steps.
func TestExample(t *testing.T) {
	s, p := kv.New(), mach.New()
	s.Do(kv.Op{Kind: kv.Create, Key: "a", Val: "x"})
	found := 0
	p.Ask(get("a"), func(r kv.Result) {
		if r.Code != api.OK || r.Val != "x" || r.Rev != 1 {
			t.Errorf("Get tells %+v", r)
		}
		p.Ask(kv.Op{Kind: kv.List}, func(r kv.Result) { found = len(r.Items) })
	})
	if !mach.Run(p, s.Do, 2) || found != 1 {
		t.Errorf("found %d items", found)
	}
	wantSteps(t, "the example", p, 2)
}

// A procedure that was done may be asked anew, and counts on.
func TestRunAnew(t *testing.T) {
	p, _ := times(3)
	do := func(kv.Op) kv.Result { return kv.Result{} }
	mach.Run(p, do, 9)
	p.Ask(full, nil)
	if !mach.Run(p, do, 1) {
		t.Error("Run anew: false")
	}
	wantSteps(t, "anew", p, 4)
}
