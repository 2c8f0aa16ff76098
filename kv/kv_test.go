package kv_test

import (
	"fmt"
	"math"
	"math/rand"
	"slices"
	"strings"
	"testing"

	"virgate/api"
	"virgate/kv"
)

var (
	longestKey = strings.Repeat("k", 128)
	tooLongKey = strings.Repeat("k", 129)
	longestVal = strings.Repeat("v", 65536)
	tooLongVal = strings.Repeat("v", 65537)
)

// show tells how a thing of any kind looks, as far as that is not too long.
func show(x any) string {
	return fmt.Sprintf("%.300s", fmt.Sprintf("%#v", x))
}

// of tells a state that may be.
func of(t *testing.T, rev int64, l ...kv.Item) *kv.State {
	t.Helper()
	s, e := kv.Of(rev, l)
	if s == nil || e != api.OK {
		t.Fatalf("Of(%d, %s) = %d, a state: %v", rev, show(l), e, s != nil)
	}
	return s
}

// some tells a state of three items, at revision 9.
func some(t *testing.T) *kv.State {
	t.Helper()
	return of(t, 9, kv.Item{Key: "a", Val: "x", Rev: 3}, kv.Item{Key: "ab", Val: "", Rev: 9}, kv.Item{Key: "b", Val: "y", Rev: 1})
}

// wantState holds how a state stands.
func wantState(t *testing.T, what string, s *kv.State, rev int64, l ...kv.Item) {
	t.Helper()
	if s.Rev() != rev || s.Len() != len(l) || !slices.Equal(s.All(), l) {
		t.Errorf("%s: at revision %d are %d: %s; want at %d %s", what, s.Rev(), s.Len(), show(s.All()), rev, show(l))
	}
}

// wantSome holds that a state stands as some does.
func wantSome(t *testing.T, what string, s *kv.State) {
	t.Helper()
	wantState(t, what, s, 9, some(t).All()...)
}

func sameResult(a, b kv.Result) bool {
	return a.Code == b.Code && a.Rev == b.Rev && a.Val == b.Val && slices.Equal(a.Items, b.Items)
}

// wantPlan holds what Plan tells, and that nothing is changed by it.
func wantPlan(t *testing.T, s *kv.State, o kv.Op, told kv.Result, effect kv.Effect, writes bool) {
	t.Helper()
	rev, items := s.Rev(), s.All()
	for range 2 {
		r, x, w := s.Plan(o)
		if !sameResult(r, told) || x != effect || w != writes {
			t.Errorf("Plan(%s) = %s, %s, %v; want %s, %s, %v", show(o), show(r), show(x), w, show(told), show(effect), writes)
		}
	}
	wantState(t, "Plan", s, rev, items...)
}

// wantRefused holds that o is refused with code, by Plan and by Do, and changes nothing.
func wantRefused(t *testing.T, s *kv.State, o kv.Op, code api.Errno) {
	t.Helper()
	wantPlan(t, s, o, kv.Result{Code: code}, kv.Effect{}, false)
	rev, items := s.Rev(), s.All()
	if r := s.Do(o); !sameResult(r, kv.Result{Code: code}) {
		t.Errorf("Do(%s) = %s; want %d", show(o), show(r), code)
	}
	wantState(t, "Do", s, rev, items...)
}

// wantWrite holds that the effect is planned, and done by Do; the state that comes of it is told.
func wantWrite(t *testing.T, start func(t *testing.T) *kv.State, o kv.Op, effect kv.Effect) *kv.State {
	t.Helper()
	s := start(t)
	told := kv.Result{Rev: effect.Rev}
	wantPlan(t, s, o, told, effect, true)
	if r := s.Do(o); !sameResult(r, told) {
		t.Errorf("Do(%s) = %s; want %s", show(o), show(r), show(told))
	}
	applied := start(t)
	if e := applied.Apply(effect); e != api.OK {
		t.Errorf("Apply(%s) = %d", show(effect), e)
	}
	if !slices.Equal(s.All(), applied.All()) || s.Rev() != effect.Rev || applied.Rev() != effect.Rev {
		t.Errorf("Do(%s) leaves %s; Apply %s", show(o), show(s.All()), show(applied.All()))
	}
	return s
}

// P9.2: the example.
func TestExample(t *testing.T) {
	s := kv.New()
	for i, c := range []struct {
		o    kv.Op
		told kv.Result
	}{
		{kv.Op{Kind: kv.Create, Key: "a"}, kv.Result{Rev: 1}},
		{kv.Op{Kind: kv.Update, Key: "a", Rev: 1}, kv.Result{Rev: 2}},
		{kv.Op{Kind: kv.Update, Key: "a", Rev: 1}, kv.Result{Code: api.ErrStale}},
	} {
		if r := s.Do(c.o); !sameResult(r, c.told) {
			t.Errorf("%d: Do = %s; want %s", i, show(r), show(c.told))
		}
	}
}

func TestKinds(t *testing.T) {
	if kinds := [5]int{kv.Get, kv.List, kv.Create, kv.Update, kv.Delete}; kinds != [5]int{1, 2, 3, 4, 5} {
		t.Errorf("the kinds are %v", kinds)
	}
}

// P9.1: nothing, at revision 0; a state made by hand is the same.
func TestNew(t *testing.T) {
	for _, s := range []*kv.State{kv.New(), {}, of(t, 0)} {
		wantState(t, "New", s, 0)
		wantPlan(t, s, kv.Op{Kind: kv.List}, kv.Result{}, kv.Effect{}, false)
		wantRefused(t, s, kv.Op{Kind: kv.Get, Key: "a"}, api.ErrNone)
		wantRefused(t, s, kv.Op{Kind: kv.Delete, Key: "a"}, api.ErrNone)
		if e := s.Apply(kv.Effect{Key: "a", Rev: 1, Gone: true}); e != api.ErrArg {
			t.Errorf("Apply of what is gone = %d", e)
		}
		if e := s.Apply(kv.Effect{Key: "a", Val: "x", Rev: 1}); e != api.OK {
			t.Errorf("Apply = %d", e)
		}
		wantState(t, "Apply", s, 1, kv.Item{Key: "a", Val: "x", Rev: 1})
	}
	wantState(t, "one New is not the other one", kv.New(), 0)
}

// P9.1: lists that may be.
func TestOf(t *testing.T) {
	for _, c := range []struct {
		rev int64
		l   []kv.Item
	}{
		{0, nil},
		{0, []kv.Item{}},
		{5, nil},
		{math.MaxInt64, nil},
		{1, []kv.Item{{Key: "a", Val: "x", Rev: 1}}},
		{7, []kv.Item{{Key: "a", Rev: 7}, {Key: "b", Rev: 7}, {Key: "c", Rev: 1}}},
		{math.MaxInt64, []kv.Item{{Key: "a", Rev: math.MaxInt64}, {Key: "b", Rev: 1}}},
		{1, []kv.Item{{Key: longestKey, Val: longestVal, Rev: 1}}},
		{1, []kv.Item{{Key: "\x00", Val: "\x00", Rev: 1}, {Key: "\x00\x00", Rev: 1}, {Key: "B", Rev: 1}, {Key: "a", Rev: 1}, {Key: "a\x00", Rev: 1}, {Key: "aa", Rev: 1}, {Key: "\x7f", Rev: 1}, {Key: "\x80", Rev: 1}, {Key: "\xff", Val: "\xff\xfe", Rev: 1}}},
	} {
		wantState(t, "Of", of(t, c.rev, c.l...), c.rev, c.l...)
	}
}

// P9.1: what may not be, at whatever place in the list.
func TestOfRefused(t *testing.T) {
	refused := func(what string, rev int64, l ...kv.Item) {
		t.Helper()
		if s, e := kv.Of(rev, l); s != nil || e != api.ErrArg {
			t.Errorf("%s: Of = %d, a state: %v; want %d", what, e, s != nil, api.ErrArg)
		}
	}
	refused("a revision below 0", -1)
	refused("the least revision", math.MinInt64)
	refused("an item at revision 0", 0, kv.Item{Key: "a"})
	refused("an item at revision 0", 0, kv.Item{Key: "a", Rev: 1})
	refused("an item below revision 0", -1, kv.Item{Key: "a", Rev: -1})
	good := []kv.Item{{Key: "b", Val: "x", Rev: 1}, {Key: "d", Rev: 5}, {Key: "f", Rev: 2}}
	of(t, 5, good...)
	for i, key := range []string{"b", "d", "f"} {
		for what, it := range map[string]kv.Item{
			"an empty key":           {Rev: 1},
			"too long a key":         {Key: key + tooLongKey[1:], Rev: 1},
			"too long a value":       {Key: key, Val: tooLongVal, Rev: 1},
			"revision 0":             {Key: key},
			"a revision below 0":     {Key: key, Rev: -1},
			"the least revision":     {Key: key, Rev: math.MinInt64},
			"a revision not yet":     {Key: key, Rev: 6},
			"the greatest revision":  {Key: key, Rev: math.MaxInt64},
			"a key that comes again": {Key: good[(i+1)%3].Key, Rev: 1},
		} {
			l := slices.Clone(good)
			l[i] = it
			refused(what, 5, l...)
		}
	}
	refused("keys that fall", 5, good[1], good[0], good[2])
	refused("keys that fall", 5, good[0], good[2], good[1])
	refused("a key's beginning behind it", 5, kv.Item{Key: "aa", Rev: 1}, kv.Item{Key: "a", Rev: 1})
	refused("bytes that fall", 5, kv.Item{Key: "\xff", Rev: 1}, kv.Item{Key: "a", Rev: 1})
}

// P9.2: Get.
func TestGet(t *testing.T) {
	for _, o := range []kv.Op{{Key: "a"}, {Key: "a", Val: tooLongVal, Rev: 77, If: "zz", IfRev: 5}, {Key: "a", If: "a", IfRev: 3}} {
		o.Kind = kv.Get
		wantPlan(t, some(t), o, kv.Result{Rev: 3, Val: "x"}, kv.Effect{}, false)
	}
	wantPlan(t, some(t), kv.Op{Kind: kv.Get, Key: "ab"}, kv.Result{Rev: 9}, kv.Effect{}, false)
	for _, key := range []string{"", "c", "A", "aa", "abc", "a\x00", " a", longestKey, tooLongKey} {
		wantRefused(t, some(t), kv.Op{Kind: kv.Get, Key: key, Rev: 3, Val: "x"}, api.ErrNone)
	}
	s := some(t)
	if r := s.Do(kv.Op{Kind: kv.Get, Key: "b"}); !sameResult(r, kv.Result{Rev: 1, Val: "y"}) {
		t.Errorf("Do of Get = %s", show(r))
	}
	wantSome(t, "Do of Get", s)
}

// P9.2: List tells those whose keys begin so, by their bytes, and the state's revision.
func TestList(t *testing.T) {
	keys := []string{"\x00", "\x00a", "A", "a", "a\x00", "a/", "aa", "ab", "abc", "b", "\xc3\xa9", "\xff", "\xff\xff", longestKey}
	slices.Sort(keys)
	var all []kv.Item
	for i, key := range keys {
		all = append(all, kv.Item{Key: key, Val: strings.ToUpper(key), Rev: int64(20 - i)})
	}
	s := of(t, 40, all...)
	starts := append([]string{"", "\xc3", "abcd", "B", " ", "kk", tooLongKey}, keys...)
	for _, start := range starts {
		var l []kv.Item
		for _, it := range all {
			if len(it.Key) >= len(start) && it.Key[:len(start)] == start {
				l = append(l, it)
			}
		}
		for _, o := range []kv.Op{{}, {Val: tooLongVal, Rev: 3, If: "none", IfRev: 4}} {
			o.Kind, o.Key = kv.List, start
			wantPlan(t, s, o, kv.Result{Rev: 40, Items: l}, kv.Effect{}, false)
			if r := s.Do(o); !sameResult(r, kv.Result{Rev: 40, Items: l}) {
				t.Errorf("Do of List %q = %s", start, show(r))
			}
		}
	}
	wantState(t, "List", s, 40, all...)
	wantPlan(t, of(t, 8), kv.Op{Kind: kv.List}, kv.Result{Rev: 8}, kv.Effect{}, false)
}

// P9.2: Create.
func TestCreate(t *testing.T) {
	for _, c := range []struct{ key, val string }{{"c", "z"}, {"c", ""}, {"\x00", "\xff"}, {"aa", "x"}, {longestKey, longestVal}} {
		// What is not asked for by Create is passed over.
		o := kv.Op{Kind: kv.Create, Key: c.key, Val: c.val, Rev: 77, IfRev: 77}
		s := wantWrite(t, some, o, kv.Effect{Key: c.key, Val: c.val, Rev: 10})
		l := append(some(t).All(), kv.Item{Key: c.key, Val: c.val, Rev: 10})
		slices.SortFunc(l, func(a, b kv.Item) int { return strings.Compare(a.Key, b.Key) })
		wantState(t, "Create", s, 10, l...)
		o.Key, o.Rev = "a", 3
		wantRefused(t, s, o, api.ErrThere)
	}
}

// P9.2: Update.
func TestUpdate(t *testing.T) {
	l := some(t).All()
	for _, val := range []string{"", "x", "other", longestVal} {
		s := wantWrite(t, some, kv.Op{Kind: kv.Update, Key: "a", Val: val, Rev: 3, IfRev: 77}, kv.Effect{Key: "a", Val: val, Rev: 10})
		wantState(t, "Update", s, 10, kv.Item{Key: "a", Val: val, Rev: 10}, l[1], l[2])
		for _, rev := range []int64{3, 9, 2, 0, 4, 11, -3, math.MaxInt64, math.MinInt64} {
			wantRefused(t, s, kv.Op{Kind: kv.Update, Key: "a", Val: val, Rev: rev}, api.ErrStale)
		}
		for _, rev := range []int64{0, 3, 9, 10} {
			wantRefused(t, s, kv.Op{Kind: kv.Update, Key: "c", Val: val, Rev: rev}, api.ErrNone)
		}
	}
}

// P9.2: Delete; its Val is passed over.
func TestDelete(t *testing.T) {
	l := some(t).All()
	for _, val := range []string{"", "x", tooLongVal} {
		s := wantWrite(t, some, kv.Op{Kind: kv.Delete, Key: "ab", Val: val, Rev: 9, IfRev: 77}, kv.Effect{Key: "ab", Rev: 10, Gone: true})
		wantState(t, "Delete", s, 10, l[0], l[2])
		wantRefused(t, s, kv.Op{Kind: kv.Delete, Key: "ab", Val: val, Rev: 9}, api.ErrNone)
		for _, rev := range []int64{1, 9, 10, 0, 2, 4, -3, math.MaxInt64, math.MinInt64} {
			wantRefused(t, s, kv.Op{Kind: kv.Delete, Key: "a", Val: val, Rev: rev}, api.ErrStale)
		}
		s.Do(kv.Op{Kind: kv.Delete, Key: "a", Rev: 3})
		s.Do(kv.Op{Kind: kv.Delete, Key: "b", Rev: 1})
		wantState(t, "all gone", s, 12)
	}
}

// writes are, by kind, one that some does.
var writes = map[int]kv.Op{
	kv.Create: {Kind: kv.Create, Key: "c", Val: "z"},
	kv.Update: {Kind: kv.Update, Key: "a", Val: "z", Rev: 3},
	kv.Delete: {Kind: kv.Delete, Key: "b", Rev: 1},
}

// P9.2: a write may hang on another item's revision.
func TestIf(t *testing.T) {
	for _, o := range writes {
		for key, rev := range map[string]int64{"a": 3, "ab": 9, "b": 1} {
			o.If, o.IfRev = key, rev
			s := some(t)
			if r := s.Do(o); !sameResult(r, kv.Result{Rev: 10}) || s.Rev() != 10 {
				t.Errorf("Do(%s) = %s", show(o), show(r))
			}
			for _, other := range []int64{0, rev - 1, rev + 1, 10, -rev, math.MaxInt64, math.MinInt64} {
				o.IfRev = other
				wantRefused(t, some(t), o, api.ErrStale)
			}
		}
		for _, key := range []string{"c", "d", "A", "aa", "\x00", longestKey, tooLongKey} {
			for _, rev := range []int64{0, 3, 9, 10} {
				o.If, o.IfRev = key, rev
				wantRefused(t, some(t), o, api.ErrStale)
			}
		}
	}
}

// P9.2: of several errors the one that is named first.
func TestFirstError(t *testing.T) {
	for kind, o := range writes {
		for _, key := range []string{"", tooLongKey} {
			wrong := o
			wrong.Key = key
			wantRefused(t, some(t), wrong, api.ErrArg)
			wrong.If, wrong.Val = "none", tooLongVal
			wantRefused(t, some(t), wrong, api.ErrArg)
		}
		o.Val, o.If, o.Rev = tooLongVal, "none", 5
		code := map[int]api.Errno{kv.Create: api.ErrArg, kv.Update: api.ErrArg, kv.Delete: api.ErrStale}[kind]
		wantRefused(t, some(t), o, code)
		o.Key = "a"
		wantRefused(t, some(t), o, code)
	}
	wantRefused(t, some(t), kv.Op{Kind: kv.Update, Key: "c", Val: tooLongVal}, api.ErrArg)
	for _, key := range []string{"none", "a"} {
		wantRefused(t, some(t), kv.Op{Kind: kv.Create, Key: "a", Rev: 3, If: key, IfRev: 1}, api.ErrThere)
		wantRefused(t, some(t), kv.Op{Kind: kv.Update, Key: "c", Rev: 3, If: key, IfRev: 1}, api.ErrNone)
		wantRefused(t, some(t), kv.Op{Kind: kv.Delete, Key: "c", Rev: 3, If: key, IfRev: 1}, api.ErrNone)
	}
}

// P9.2: what is none of the five kinds.
func TestOtherKinds(t *testing.T) {
	for _, kind := range []int{0, 6, -1, -3, 7, 256 + kv.Create, math.MaxInt, math.MinInt} {
		for _, o := range []kv.Op{{}, {Key: "a"}, {Key: "a", Rev: 3}, {Key: "c", Val: "z"}, {Key: "none", If: "none"}, {Key: "a", Rev: 3, If: "a", IfRev: 3}} {
			o.Kind = kind
			wantRefused(t, some(t), o, api.ErrArg)
		}
	}
}

// P9.2: effects that may not be Applied.
func TestApplyRefused(t *testing.T) {
	for what, x := range map[string]kv.Effect{
		"nothing":                 {},
		"an empty key":            {Rev: 10},
		"too long a key":          {Key: tooLongKey, Rev: 10},
		"too long a value":        {Key: "c", Val: tooLongVal, Rev: 10},
		"the revision itself":     {Key: "c", Rev: 9},
		"two more":                {Key: "c", Rev: 11},
		"revision 0":              {Key: "c"},
		"below 0":                 {Key: "c", Rev: -10},
		"the greatest":            {Key: "c", Rev: math.MaxInt64},
		"the least":               {Key: "c", Rev: math.MinInt64},
		"gone, an empty key":      {Rev: 10, Gone: true},
		"gone, with a value":      {Key: "a", Val: "x", Rev: 10, Gone: true},
		"gone, too long a value":  {Key: "a", Val: tooLongVal, Rev: 10, Gone: true},
		"gone, no such item":      {Key: "c", Rev: 10, Gone: true},
		"gone, a key's beginning": {Key: "abc", Rev: 10, Gone: true},
		"gone, a wrong revision":  {Key: "a", Rev: 9, Gone: true},
	} {
		s := some(t)
		if e := s.Apply(x); e != api.ErrArg {
			t.Errorf("%s: Apply = %d; want %d", what, e, api.ErrArg)
		}
		wantSome(t, what, s)
	}
}

// P9.2: Apply does not ask whether an item is there, but of one that is to go.
func TestApply(t *testing.T) {
	s := some(t)
	l := s.All()
	for i, c := range []struct {
		x    kv.Effect
		left []kv.Item
	}{
		{kv.Effect{Key: "a", Val: "new", Rev: 10}, []kv.Item{{Key: "a", Val: "new", Rev: 10}, l[1], l[2]}},
		{kv.Effect{Key: "a", Val: "new", Rev: 11}, []kv.Item{{Key: "a", Val: "new", Rev: 11}, l[1], l[2]}},
		{kv.Effect{Key: "b", Rev: 12, Gone: true}, []kv.Item{{Key: "a", Val: "new", Rev: 11}, l[1]}},
		{kv.Effect{Key: "b", Rev: 13}, []kv.Item{{Key: "a", Val: "new", Rev: 11}, l[1], {Key: "b", Rev: 13}}},
		{kv.Effect{Key: "ab", Rev: 14, Gone: true}, []kv.Item{{Key: "a", Val: "new", Rev: 11}, {Key: "b", Rev: 13}}},
		{kv.Effect{Key: longestKey, Val: longestVal, Rev: 15}, []kv.Item{{Key: "a", Val: "new", Rev: 11}, {Key: "b", Rev: 13}, {Key: longestKey, Val: longestVal, Rev: 15}}},
	} {
		if e := s.Apply(c.x); e != api.OK {
			t.Errorf("%d: Apply = %d", i, e)
		}
		wantState(t, "Apply", s, c.x.Rev, c.left...)
	}
}

// P9.3: no number is one more than the greatest: there nothing is written any more, and all that is named is told ahead.
func TestLastRevision(t *testing.T) {
	start := func(t *testing.T) *kv.State {
		return of(t, math.MaxInt64-1, kv.Item{Key: "a", Val: "x", Rev: 3}, kv.Item{Key: "b", Rev: 1})
	}
	for _, o := range writes {
		x := kv.Effect{Key: o.Key, Val: o.Val, Rev: math.MaxInt64, Gone: o.Kind == kv.Delete}
		s := wantWrite(t, start, o, x)
		wantRefused(t, s, kv.Op{Kind: kv.Create, Key: "n"}, api.ErrArg)
		wantRefused(t, s, kv.Op{Kind: kv.Create, Key: "n", If: "none"}, api.ErrStale)
		wantRefused(t, s, kv.Op{Kind: kv.Create, Key: "a"}, api.ErrThere)
		for _, rev := range []int64{math.MinInt64, 0, 1, math.MaxInt64} {
			if e := s.Apply(kv.Effect{Key: "n", Rev: rev}); e != api.ErrArg {
				t.Errorf("Apply at %d = %d", rev, e)
			}
		}
		if s.Rev() != math.MaxInt64 {
			t.Errorf("Rev = %d", s.Rev())
		}
	}
}

// P9: a nil state.
func TestNil(t *testing.T) {
	var s *kv.State
	ops := []kv.Op{{}, {Kind: 6}, {Kind: kv.Get, Key: "a"}, {Kind: kv.List}, {Kind: kv.Create}, {Kind: kv.Create, Key: tooLongKey}}
	for _, o := range writes {
		ops = append(ops, o)
	}
	for _, o := range ops {
		wantRefused(t, s, o, api.ErrNil)
	}
	for _, x := range []kv.Effect{{}, {Key: "a", Rev: 1}, {Key: "a", Rev: 1, Gone: true}} {
		if e := s.Apply(x); e != api.ErrNil {
			t.Errorf("Apply = %d; want %d", e, api.ErrNil)
		}
	}
	wantState(t, "nil", s, 0)
}

// P9.1: Same asks for the revision, the keys, the values and their revisions, and for nothing else.
func TestSame(t *testing.T) {
	made := some(t)
	made.Do(kv.Op{Kind: kv.Create, Key: "c"})
	made.Do(kv.Op{Kind: kv.Delete, Key: "c", Rev: 10})
	same := [][]*kv.State{
		{nil, kv.New(), {}, of(t, 0)},
		{of(t, 11)},
		{some(t), some(t)},
		{made, of(t, 11, some(t).All()...)},
		{of(t, 9, kv.Item{Key: "a", Val: "x", Rev: 3}), of(t, 9, kv.Item{Key: "a", Val: "x", Rev: 3})},
		{of(t, 8, kv.Item{Key: "a", Val: "x", Rev: 3})},
		{of(t, 9, kv.Item{Key: "a", Val: "y", Rev: 3})},
		{of(t, 9, kv.Item{Key: "a", Val: "x", Rev: 4})},
		{of(t, 9, kv.Item{Key: "b", Val: "x", Rev: 3})},
		{of(t, 9)},
	}
	for i, a := range slices.Concat(same...) {
		for j, b := range slices.Concat(same...) {
			want := slices.ContainsFunc(same, func(l []*kv.State) bool { return slices.Contains(l, a) && slices.Contains(l, b) })
			if kv.Same(a, b) != want {
				t.Errorf("Same of number %d and %d = %v", i, j, !want)
			}
		}
	}
}

// P1: no list is changed or kept, and none that is told shares memory with another one.
func TestListsAreAlone(t *testing.T) {
	given := some(t).All()
	in := slices.Clone(given)
	s := of(t, 9, in...)
	of(t, 9, in[:2]...)
	if !slices.Equal(in, given) {
		t.Errorf("what was handed in is %s", show(in))
	}
	for i := range in {
		in[i] = kv.Item{Key: "!"}
	}
	wantSome(t, "written into what was handed in", s)

	list := func() []kv.Item {
		r, _, _ := s.Plan(kv.Op{Kind: kv.List, Key: "a"})
		return r.Items
	}
	all, part := s.All(), list()
	for _, told := range [][]kv.Item{s.All(), list(), s.Do(kv.Op{Kind: kv.List}).Items} {
		told = append(told, kv.Item{Key: "more"})
		for i := range told {
			told[i] = kv.Item{Key: "!"}
		}
		_ = append(told[:1], kv.Item{Key: "?"})
	}
	if !slices.Equal(all, given) || !slices.Equal(part, given[:2]) || !slices.Equal(list(), given[:2]) {
		t.Errorf("written into what was told: %s, %s, %s", show(all), show(part), show(list()))
	}
	wantSome(t, "written into what was told", s)
}

// list is another state: its items in a list, by their keys.
type list struct {
	rev   int64
	items []kv.Item
}

func (s *list) at(key string) (int, bool) {
	return slices.BinarySearchFunc(s.items, key, func(it kv.Item, key string) int { return strings.Compare(it.Key, key) })
}

func (s *list) holds(key string, rev int64) bool {
	i, there := s.at(key)
	return there && s.items[i].Rev == rev
}

func (s *list) do(o kv.Op) kv.Result {
	i, there := s.at(o.Key)
	stale := o.If != "" && !s.holds(o.If, o.IfRev)
	may := len(o.Key) >= 1 && len(o.Key) <= 128 && (o.Kind == kv.Delete || len(o.Val) <= 65536)
	switch {
	case o.Kind == kv.Get && there:
		return kv.Result{Rev: s.items[i].Rev, Val: s.items[i].Val}
	case o.Kind == kv.Get:
		return kv.Result{Code: api.ErrNone}
	case o.Kind == kv.List:
		n := i
		for n < len(s.items) && strings.HasPrefix(s.items[n].Key, o.Key) {
			n++
		}
		return kv.Result{Rev: s.rev, Items: slices.Clone(s.items[i:n])}
	case o.Kind < kv.Create || o.Kind > kv.Delete || !may:
		return kv.Result{Code: api.ErrArg}
	case o.Kind == kv.Create && there:
		return kv.Result{Code: api.ErrThere}
	case o.Kind != kv.Create && !there:
		return kv.Result{Code: api.ErrNone}
	case o.Kind != kv.Create && !s.holds(o.Key, o.Rev), stale:
		return kv.Result{Code: api.ErrStale}
	}
	s.rev++
	switch it := (kv.Item{Key: o.Key, Val: o.Val, Rev: s.rev}); o.Kind {
	case kv.Create:
		s.items = slices.Insert(s.items, i, it)
	case kv.Update:
		s.items[i] = it
	case kv.Delete:
		s.items = slices.Delete(s.items, i, i+1)
	}
	return kv.Result{Rev: s.rev}
}

// anyOp tells an operation that often may be done, on few keys.
func anyOp(r *rand.Rand, s *list) kv.Op {
	keys := []string{"a", "a/", "a/b", "a/c", "ab", "b", "\xff", "", tooLongKey}
	vals := []string{"", "x", "yy", "\x00\xff"}
	rev := func(key string) int64 {
		if i, there := s.at(key); there && r.Intn(3) > 0 {
			return s.items[i].Rev
		}
		return s.rev - int64(r.Intn(5))
	}
	o := kv.Op{Kind: r.Intn(7), Key: keys[r.Intn(len(keys))], Val: vals[r.Intn(len(vals))]}
	o.Rev = rev(o.Key)
	if r.Intn(3) == 0 {
		o.If = keys[r.Intn(len(keys))]
		o.IfRev = rev(o.If)
	}
	return o
}

// P9.2, P9.3: random operations, held against another state; each write that is done has one more than the one ahead, and of those with one revision of a key at most one is done.
func TestAgainstAnother(t *testing.T) {
	r := rand.New(rand.NewSource(9))
	type since struct {
		key string
		rev int64
	}
	for range 60 {
		s, other := kv.New(), &list{}
		done := map[since]bool{}
		for range 400 {
			o := anyOp(r, other)
			told, effect, writes := s.Plan(o)
			ahead := s.Rev()
			want := other.do(o)
			if got := s.Do(o); !sameResult(got, want) || !sameResult(told, want) {
				t.Fatalf("Do(%s) = %s, planned was %s; want %s", show(o), show(got), show(told), show(want))
			}
			wantState(t, "Do", s, other.rev, other.items...)
			if writes != (s.Rev() != ahead) || writes && (s.Rev() != ahead+1 || effect.Rev != s.Rev()) {
				t.Fatalf("Do(%s) at %d: at %d now; its effect was %v, %s", show(o), ahead, s.Rev(), writes, show(effect))
			}
			if at := (since{o.Key, o.Rev}); writes && o.Kind != kv.Create {
				if done[at] {
					t.Fatalf("two writes of %q with revision %d", o.Key, o.Rev)
				}
				done[at] = true
			}
		}
		if !kv.Same(s, of(t, other.rev, other.items...)) {
			t.Fatal("Same of what is the same")
		}
	}
}

// P1, P9.2: whatever is asked, each call ends, Do tells what Plan does, and a state is as Of may make it.
func FuzzDo(f *testing.F) {
	f.Add(3, "a", "x", int64(0), "", int64(0))
	f.Add(4, "a", "x", int64(3), "b", int64(1))
	f.Add(5, "ab", "", int64(9), "ab", int64(9))
	f.Add(2, "a", "", int64(-1), "", int64(0))
	f.Fuzz(func(t *testing.T, kind int, key, val string, rev int64, on string, onRev int64) {
		s := some(t)
		o := kv.Op{Kind: kind, Key: key, Val: val, Rev: rev, If: on, IfRev: onRev}
		other := &list{rev: 9, items: s.All()}
		told, _, _ := s.Plan(o)
		if got, want := s.Do(o), other.do(o); !sameResult(got, want) || !sameResult(told, want) {
			t.Errorf("Do(%s) = %s, planned was %s; want %s", show(o), show(got), show(told), show(want))
		}
		if !kv.Same(s, of(t, other.rev, other.items...)) {
			t.Errorf("Do(%s) leaves %s; want %s", show(o), show(s.All()), show(other.items))
		}
		s.Apply(kv.Effect{Key: key, Val: val, Rev: rev, Gone: kind%2 == 0})
		of(t, s.Rev(), s.All()...)
	})
}
