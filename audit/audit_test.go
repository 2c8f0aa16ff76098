package audit_test

import (
	"cmp"
	"fmt"
	"math"
	"math/rand"
	"slices"
	"strconv"
	"strings"
	"testing"

	"virgate/api"
	"virgate/audit"
	"virgate/block"
	"virgate/client"
	"virgate/handle"
	"virgate/image"
	"virgate/kv"
	"virgate/recs"
	"virgate/sched"
)

// base is the first address of the net that most is done in.
const base = 10 << 24

// Keys and values, written by hand.
const (
	poolKey    = "pool/10.0.0.0-24"
	openPool   = "P\x0a\x00\x00\x00\x18\x01"
	closedPool = "P\x0a\x00\x00\x00\x18\x00"
	blkKey     = "block/10.0.0.0-26"
	nextKey    = "block/10.0.0.64-26"
	n1Key      = "aff/n1/10.0.0.0-26"
	n2Key      = "aff/n2/10.0.0.0-26"
	pending    = "A\x01"
	confirmed  = "A\x02"
	leaving    = "A\x03"
	present    = "N\x00"
	gone       = "N\x01"
)

func item(key, val string) kv.Item { return kv.Item{Key: key, Val: val, Rev: 1} }

func flaw(kind int, key string) audit.Flaw { return audit.Flaw{Kind: kind, Key: key} }

// pool is the pool that has all of base's blocks.
func pool() kv.Item { return item(poolKey, openPool) }

// share is so many addresses, given under a handle for a node.
type share struct {
	handle, node string
	n            int
}

// blockOf tells the bytes of the block of addr, that is aff's, and of which so much is given.
func blockOf(addr uint32, aff string, l ...share) string {
	b, _ := block.New(addr, aff)
	for _, s := range l {
		b, _, _ = block.Assign(b, s.n, block.Attr{Handle: s.handle, Node: s.node})
	}
	val, e := image.Put(b)
	if e != api.OK {
		panic("a block that is not right")
	}
	return val
}

// handleOf tells the bytes of a handle that has n[k] in the block k behind base.
func handleOf(n ...int) string {
	var h handle.Handle
	for k, n := range n {
		h, _ = handle.Set(h, base+uint32(k)*64, n)
	}
	val, e := handle.Put(h)
	if e != api.OK {
		panic("a handle that is not right")
	}
	return val
}

// wantFlaws holds the flaws of l in whatever order it stands: all of want if strict, else those that are not left over.
func wantFlaws(t *testing.T, what string, l []kv.Item, want ...audit.Flaw) {
	t.Helper()
	var mild []audit.Flaw
	for _, f := range want {
		if f.Kind < 8 {
			mild = append(mild, f)
		}
	}
	chance := rand.New(rand.NewSource(1))
	for range 6 {
		kept := slices.Clone(l)
		if got := audit.Check(l, true); !slices.Equal(got, want) {
			t.Errorf("%s: strict %v; want %v", what, got, want)
		}
		if got := audit.Check(l, false); !slices.Equal(got, mild) {
			t.Errorf("%s: %v; want %v", what, got, mild)
		}
		if !slices.Equal(l, kept) {
			t.Fatalf("%s: the items have changed", what)
		}
		l = slices.Clone(l)
		chance.Shuffle(len(l), func(i, j int) { l[i], l[j] = l[j], l[i] })
	}
}

// The example of the chapter.
func TestExample(t *testing.T) {
	wantFlaws(t, "an affinity alone", []kv.Item{item(n1Key, confirmed)}, flaw(audit.Unbacked, n1Key))
}

func TestKinds(t *testing.T) {
	for k, kind := range []int{audit.Unread, audit.Unbacked, audit.Unheld, audit.Twice, audit.Homeless, audit.Meeting, audit.Short, audit.Over, audit.Undone, audit.Idle, audit.Dead} {
		if kind != k+1 {
			t.Errorf("the kind %d is %d", k+1, kind)
		}
	}
}

// P33.1: where nothing is wrong, there is no flaw.
func TestNothingWrong(t *testing.T) {
	wantFlaws(t, "nothing", nil)
	wantFlaws(t, "no items", []kv.Item{})
	wantFlaws(t, "a lock, a pool and nodes", []kv.Item{item("lock", "L"), pool(), item("node/n1", present), item("node/n2", gone)})
	wantFlaws(t, "a closed pool", []kv.Item{item(poolKey, closedPool), item(n1Key, confirmed), item(blkKey, blockOf(base, "n1"))})
	wantFlaws(t, "a handle of nothing", []kv.Item{item("handle/h1", handleOf())})
	wantFlaws(t, "all that may be", []kv.Item{
		item("lock", "L"), pool(), item("pool/10.0.1.0-24", "P\x0a\x00\x01\x00\x18\x00"),
		item("node/n1", present), item("node/n2", present), item("node/n3", gone),
		item(n1Key, confirmed), item(blkKey, blockOf(base, "n1", share{"h1", "n1", 2}, share{"h1", "n2", 1}, share{"h2", "n1", 4})),
		item(nextKey, blockOf(base+64, "", share{"h1", "n1", 1})),
		item("aff/n4/10.0.0.128-26", confirmed), item("block/10.0.0.128-26", blockOf(base+128, "n4")),
		item("handle/h1", handleOf(3, 1)), item("handle/h2", handleOf(4)),
	})
}

// P33.1: the flaws of affinities and blocks, each alone, as far as may be.
func TestAffsAndBlocks(t *testing.T) {
	own := item(blkKey, blockOf(base, "n1"))
	for _, x := range []struct {
		what string
		l    []kv.Item
		want []audit.Flaw
	}{
		{"of a block that is not there", []kv.Item{pool(), item(n1Key, confirmed), item(nextKey, blockOf(base+64, "n1")), item("aff/n1/10.0.0.64-26", confirmed)}, []audit.Flaw{flaw(2, n1Key)}},
		{"of a block that is another one's", []kv.Item{pool(), own, item(n1Key, confirmed), item(n2Key, confirmed)}, []audit.Flaw{flaw(2, n2Key), flaw(4, blkKey)}},
		{"of a block that is nobody's", []kv.Item{pool(), item(blkKey, blockOf(base, "", share{"h1", "n1", 1})), item("handle/h1", handleOf(1)), item(n1Key, confirmed)}, []audit.Flaw{flaw(2, n1Key)}},
		{"an affinity that is Pending is not backed", []kv.Item{item(n1Key, pending)}, []audit.Flaw{flaw(9, n1Key)}},
		{"an affinity that is Leaving is not backed", []kv.Item{pool(), own, item(n1Key, confirmed), item(n2Key, leaving)}, []audit.Flaw{flaw(9, n2Key)}},
		{"no affinity", []kv.Item{pool(), own}, []audit.Flaw{flaw(3, blkKey)}},
		{"no affinity of that node", []kv.Item{pool(), own, item(n2Key, pending)}, []audit.Flaw{flaw(3, blkKey), flaw(9, n2Key)}},
		{"no affinity to that block", []kv.Item{pool(), own, item("aff/n1/10.0.0.64-26", pending)}, []audit.Flaw{flaw(3, blkKey), flaw(9, "aff/n1/10.0.0.64-26")}},
		{"a pending affinity holds", []kv.Item{pool(), own, item(n1Key, pending)}, []audit.Flaw{flaw(9, n1Key)}},
		{"a leaving affinity holds", []kv.Item{pool(), own, item(n1Key, leaving)}, []audit.Flaw{flaw(9, n1Key)}},
		{"three of one block", []kv.Item{pool(), own, item(n1Key, confirmed), item(n2Key, confirmed), item("aff/n3/10.0.0.0-26", confirmed)}, []audit.Flaw{flaw(2, n2Key), flaw(2, "aff/n3/10.0.0.0-26"), flaw(4, blkKey)}},
		{"two of one block that is nobody's", []kv.Item{pool(), item(blkKey, blockOf(base, "")), item(n1Key, confirmed), item(n2Key, confirmed)}, []audit.Flaw{flaw(2, n1Key), flaw(2, n2Key), flaw(4, blkKey), flaw(10, blkKey)}},
		{"two of one block that is not there", []kv.Item{pool(), item(n1Key, confirmed), item(n2Key, confirmed)}, []audit.Flaw{flaw(2, n1Key), flaw(2, n2Key)}},
		{"one of each of two blocks", []kv.Item{pool(), own, item(nextKey, blockOf(base+64, "n2")), item(n1Key, confirmed), item("aff/n2/10.0.0.64-26", confirmed)}, nil},
		{"no pool", []kv.Item{own, item(n1Key, confirmed)}, []audit.Flaw{flaw(5, blkKey)}},
		{"a pool ahead", []kv.Item{own, item(n1Key, confirmed), item("pool/9.255.255.192-26", "P\x09\xff\xff\xc0\x1a\x01")}, []audit.Flaw{flaw(5, blkKey)}},
		{"a pool behind", []kv.Item{own, item(n1Key, confirmed), item("pool/10.0.0.64-26", "P\x0a\x00\x00\x40\x1a\x01")}, []audit.Flaw{flaw(5, blkKey)}},
		{"a pool of just that", []kv.Item{own, item(n1Key, confirmed), item("pool/10.0.0.0-26", "P\x0a\x00\x00\x00\x1a\x00")}, nil},
		{"the last block of a pool", []kv.Item{pool(), item("block/10.0.0.192-26", blockOf(base+192, "n1")), item("aff/n1/10.0.0.192-26", confirmed)}, nil},
		{"an affinity in no pool", []kv.Item{item(n1Key, leaving)}, []audit.Flaw{flaw(9, n1Key)}},
		{"idle", []kv.Item{pool(), item(blkKey, blockOf(base, ""))}, []audit.Flaw{flaw(10, blkKey)}},
		{"nobody's, but one is given", []kv.Item{pool(), item(blkKey, blockOf(base, "", share{"h1", "n1", 1})), item("handle/h1", handleOf(1))}, nil},
		{"an affinity of a node that is gone", []kv.Item{pool(), own, item(n1Key, confirmed), item("node/n1", gone)}, []audit.Flaw{flaw(11, n1Key)}},
		{"a pending one", []kv.Item{item(n1Key, pending), item("node/n1", gone)}, []audit.Flaw{flaw(9, n1Key), flaw(11, n1Key)}},
		{"an affinity of a node that is there", []kv.Item{pool(), own, item(n1Key, confirmed), item("node/n1", present), item("node/n2", gone)}, nil},
		{"given for a node that is gone", []kv.Item{pool(), own, item(n1Key, confirmed), item("node/n2", gone), item(nextKey, blockOf(base+64, "", share{"h1", "n3", 3}, share{"h1", "n2", 1})), item("handle/h1", handleOf(0, 4))}, []audit.Flaw{flaw(11, nextKey)}},
		{"under a handle of its name", []kv.Item{pool(), item("node/n2", gone), item(blkKey, blockOf(base, "", share{"n2", "n3", 3})), item("handle/n2", handleOf(3))}, nil},
		{"a block of a node that is gone", []kv.Item{pool(), own, item(n1Key, leaving), item("node/n1", gone)}, []audit.Flaw{flaw(9, n1Key), flaw(11, n1Key)}},
	} {
		wantFlaws(t, x.what, x.l, x.want...)
	}
}

// P33.1: pools that meet one whose key is ahead; a key may be ahead of another one's, though the net is not.
func TestMeeting(t *testing.T) {
	wide, narrow := item("pool/10.0.96.0-19", "P\x0a\x00\x60\x00\x13\x01"), item("pool/10.0.100.0-22", "P\x0a\x00\x64\x00\x16\x01")
	low, high := item("pool/10.0.0.0-25", "P\x0a\x00\x00\x00\x19\x01"), item("pool/10.0.0.128-25", "P\x0a\x00\x00\x80\x19\x00")
	far := item("pool/10.0.1.0-24", "P\x0a\x00\x01\x00\x18\x01")
	all := item("pool/10.0.0.0-16", "P\x0a\x00\x00\x00\x10\x00")
	for _, x := range []struct {
		what string
		l    []kv.Item
		want []string
	}{
		{"none meet", []kv.Item{pool(), far, narrow}, nil},
		{"side by side", []kv.Item{low, high}, nil},
		{"one in another", []kv.Item{pool(), low}, []string{low.Key}},
		{"one at the end of another", []kv.Item{pool(), high}, []string{high.Key}},
		{"two in another", []kv.Item{pool(), low, high}, []string{low.Key, high.Key}},
		{"the wider one is behind", []kv.Item{wide, narrow}, []string{wide.Key}},
		{"each but the first", []kv.Item{all, pool(), low, high, far}, []string{low.Key, high.Key, poolKey, far.Key}},
		{"all of these", []kv.Item{all, wide, narrow}, []string{narrow.Key, wide.Key}},
	} {
		var want []audit.Flaw
		for _, key := range x.want {
			want = append(want, flaw(audit.Meeting, key))
		}
		slices.SortFunc(want, func(a, b audit.Flaw) int { return cmp.Compare(a.Key, b.Key) })
		wantFlaws(t, x.what, x.l, want...)
	}
}

// P33.1: handles that have too little, too much, both, or are not there.
func TestHandles(t *testing.T) {
	blocks := []kv.Item{pool(),
		item(blkKey, blockOf(base, "", share{"h1", "n1", 2}, share{"h1", "n2", 1}, share{"h2", "n1", 5})),
		item(nextKey, blockOf(base+64, "", share{"h1", "n1", 4})),
	}
	of := func(h1, h2 string) []kv.Item {
		return append(slices.Clone(blocks), item("handle/h1", h1), item("handle/h2", h2))
	}
	h1, h2 := "handle/h1", "handle/h2"
	for _, x := range []struct {
		what string
		l    []kv.Item
		want []audit.Flaw
	}{
		{"just that", of(handleOf(3, 4), handleOf(5)), nil},
		{"one too few", of(handleOf(3, 3), handleOf(5)), []audit.Flaw{flaw(7, h1)}},
		{"none in a block", of(handleOf(0, 4), handleOf(5)), []audit.Flaw{flaw(7, h1)}},
		{"too few in both", of(handleOf(1, 1), handleOf(5)), []audit.Flaw{flaw(7, h1)}},
		{"none at all", of(handleOf(), handleOf(5)), []audit.Flaw{flaw(7, h1)}},
		{"one too many", of(handleOf(4, 4), handleOf(5)), []audit.Flaw{flaw(8, h1)}},
		{"too many in both", of(handleOf(64, 65535), handleOf(5)), []audit.Flaw{flaw(8, h1)}},
		{"some of a block that gives none", of(handleOf(3, 4), handleOf(5, 1)), []audit.Flaw{flaw(8, h2)}},
		{"some of a block that is not there", of(handleOf(3, 4, 1), handleOf(5)), []audit.Flaw{flaw(8, h1)}},
		{"too few here, too many there", of(handleOf(4, 3), handleOf(5)), []audit.Flaw{flaw(7, h1), flaw(8, h1)}},
		{"as many in all", of(handleOf(4, 3), handleOf(4, 1)), []audit.Flaw{flaw(7, h1), flaw(7, h2), flaw(8, h1), flaw(8, h2)}},
		{"neither is there", blocks, []audit.Flaw{flaw(7, h1), flaw(7, h2)}},
		{"one is not there", append(slices.Clone(blocks), item(h2, handleOf(5))), []audit.Flaw{flaw(7, h1)}},
		{"one is there of which nothing is given", append(of(handleOf(3, 4), handleOf(5)), item("handle/h3", handleOf(1)), item("handle/h4", handleOf())), []audit.Flaw{flaw(8, "handle/h3")}},
	} {
		wantFlaws(t, x.what, x.l, x.want...)
	}
}

// P33.1: flaws are told by their kinds, and those of one kind by the bytes of their keys.
func TestOrder(t *testing.T) {
	l := []kv.Item{item("node/z", gone), item("node/y", gone)}
	for _, net := range []string{"10.0.0.64", "10.0.0.128", "10.0.0.0", "9.0.0.0"} {
		for _, node := range []string{"z", "y", "Z", "-"} {
			l = append(l, item("aff/"+node+"/"+net+"-26", []string{confirmed, pending}[len(l)%2]))
		}
	}
	got := audit.Check(l, true)
	if len(got) != 8+8+8 {
		t.Fatalf("there are %d flaws: %v", len(got), got)
	}
	if !slices.IsSortedFunc(got, func(a, b audit.Flaw) int {
		return cmp.Or(a.Kind-b.Kind, strings.Compare(a.Key, b.Key))
	}) {
		t.Errorf("not in order: %v", got)
	}
	wantFlaws(t, "in whatever order", l, got...)
}

// P33.1: items that are no records are all that is told, if there is one; of which two have one key, all are.
func TestUnread(t *testing.T) {
	good := []kv.Item{pool(), item(n1Key, confirmed), item("node/n1", gone), item("lock", "L")}
	for what, it := range map[string]kv.Item{
		"no key":                 item("", ""),
		"another key":            item("a", "L"),
		"another lock":           item("lock/", "L"),
		"no value":               item("node/n2", ""),
		"another one's value":    item("node/n2", confirmed),
		"a state that is none":   item(n2Key, "A\x04"),
		"a block elsewhere":      item(nextKey, blockOf(base, "")),
		"a pool elsewhere":       item("pool/10.0.1.0-24", openPool),
		"a handle that is wrong": item("handle/h1", "H\x00\x01\x0a\x00\x00\x01\x00\x02"),
		"a name that is wrong":   item("node/a b", present),
	} {
		wantFlaws(t, what, []kv.Item{it}, flaw(audit.Unread, it.Key))
		wantFlaws(t, what, append(slices.Clone(good), it), flaw(audit.Unread, it.Key))
		wantFlaws(t, what, append(slices.Clone(good), it, item("zz", "")), flaw(audit.Unread, it.Key), flaw(audit.Unread, "zz"))
	}
}

// allUnread holds that each item of l is Unread.
func allUnread(t *testing.T, what string, l []kv.Item) {
	t.Helper()
	var want []audit.Flaw
	for _, it := range l {
		want = append(want, flaw(audit.Unread, it.Key))
	}
	slices.SortFunc(want, func(a, b audit.Flaw) int { return cmp.Compare(a.Key, b.Key) })
	wantFlaws(t, what, l, want...)
}

// P33.1: if two have one key, all are Unread, whether they say the same or not.
func TestOneKey(t *testing.T) {
	allUnread(t, "two that are the same", []kv.Item{pool(), pool()})
	allUnread(t, "two that say the same, and others", []kv.Item{pool(), item(n1Key, confirmed), pool(), item("lock", "L")})
	allUnread(t, "two that say something else", []kv.Item{item("node/n1", present), item("lock", "L"), item("node/n1", gone)})
	allUnread(t, "one of two is no record", []kv.Item{item("node/n1", ""), item("lock", "L"), item("node/n1", gone)})
	allUnread(t, "three, and one that is no record", []kv.Item{pool(), pool(), item("a", ""), pool()})
	allUnread(t, "two that are no records", []kv.Item{{}, {}, pool()})
}

// P33.2: how many flaws are of each kind; others count nowhere.
func TestCounts(t *testing.T) {
	chance := rand.New(rand.NewSource(2))
	if got := audit.Counts(nil); got != [12]int{} {
		t.Errorf("of none there are %v", got)
	}
	for range 100 {
		var want [12]int
		var l []audit.Flaw
		for kind := 1; kind <= 11; kind++ {
			want[kind] = chance.Intn(4)
			for range want[kind] {
				l = append(l, flaw(kind, "any"))
			}
		}
		for _, kind := range []int{0, -1, 12, 13, 1<<8 + 3, 1<<32 + 3, math.MinInt, math.MaxInt} {
			l = append(l, flaw(kind, "any"))
		}
		chance.Shuffle(len(l), func(i, j int) { l[i], l[j] = l[j], l[i] })
		if got := audit.Counts(l); got != want {
			t.Errorf("of %v there are %v; want %v", l, got, want)
		}
	}
}

// P33.2: a line for each kind that was asked, of those that ended, of these with OK, and of what these told.
func TestReport(t *testing.T) {
	past := func(kind int, ended bool, code api.Errno, told int) sched.Past {
		return sched.Past{Op: client.Op{Kind: kind}, Ended: ended, Result: client.Result{Code: code, L: make([]uint32, told)}}
	}
	for _, x := range []struct {
		l    []sched.Past
		want string
	}{
		{nil, ""},
		{[]sched.Past{past(0, true, 0, 1), past(14, true, 0, 1), past(-1, true, 0, 1), past(math.MaxInt, true, 0, 1), past(math.MinInt, true, 0, 1)}, ""},
		{[]sched.Past{past(1, true, 0, 0)}, "1 1 1 1 0\n"},
		{[]sched.Past{past(13, true, 0, 12), past(1, true, 0, 3), past(1, true, 0, 4)}, "1 2 2 2 7\n13 1 1 1 12\n"},
		{[]sched.Past{past(5, true, api.ErrNone, 0), past(5, false, api.OK, 0), past(5, false, api.ErrLost, 0), past(5, true, 0, 2)}, "5 4 2 1 2\n"},
		{[]sched.Past{past(3, false, api.OK, 5), past(3, true, api.ErrTired, 7)}, "3 2 1 0 0\n"},
		{[]sched.Past{past(2, false, api.OK, 0)}, "2 1 0 0 0\n"},
	} {
		if got := audit.Report(x.l); got != x.want {
			t.Errorf("of %+v: %q; want %q", x.l, got, x.want)
		}
	}
	var all []sched.Past
	var want string
	for kind := 13; kind >= 1; kind-- {
		for k := range kind {
			all = append(all, past(kind, k > 0, api.Errno(k%2), k))
		}
	}
	for kind := 1; kind <= 13; kind++ {
		well, told := 0, 0
		for k := 2; k < kind; k += 2 {
			well, told = well+1, told+k
		}
		want += fmt.Sprintf("%d %d %d %d %d\n", kind, kind, kind-1, well, told)
	}
	if got := audit.Report(all); got != want {
		t.Errorf("of all kinds: %q; want %q", got, want)
	}
}

// records is what items say, gone through one by one.
type records struct {
	affs    map[[2]string]string // by the node and the net
	blocks  map[string]block.Block
	pools   map[string]recs.Pool
	handles map[string]handle.Handle
	gone    map[string]bool
}

func recordsOf(l []kv.Item) records {
	r := records{map[[2]string]string{}, map[string]block.Block{}, map[string]recs.Pool{}, map[string]handle.Handle{}, map[string]bool{}}
	for _, it := range l {
		part := strings.Split(it.Key, "/")
		switch part[0] {
		case "aff":
			r.affs[[2]string{part[1], part[2]}] = it.Val
		case "block":
			r.blocks[part[1]], _ = image.Read(it.Val)
		case "pool":
			r.pools[it.Key], _ = recs.ReadPool(it.Val)
		case "handle":
			r.handles[part[1]], _ = handle.Read(it.Val)
		case "node":
			r.gone[part[1]] = it.Val == gone
		}
	}
	return r
}

func inPool(p recs.Pool, a uint32) bool {
	return uint64(a) >= uint64(p.Net.Addr) && uint64(a) < uint64(p.Net.Addr)+1<<(32-p.Net.Bits)
}

// given tells how many of b are given under id.
func given(b block.Block, id string) int {
	n := 0
	for a := range uint32(64) {
		if t, ok := b.Of(b.Addr + a); ok && t.Handle == id {
			n++
		}
	}
	return n
}

// flaws tells the flaws of items that are records, kind by kind, as the chapter has them.
func (r records) flaws() []audit.Flaw {
	var l []audit.Flaw
	note := func(kind int, key string, is bool) {
		if is {
			l = append(l, flaw(kind, key))
		}
	}
	for k, val := range r.affs {
		b, there := r.blocks[k[1]]
		key := "aff/" + k[0] + "/" + k[1]
		note(2, key, val == confirmed && (!there || b.Aff != k[0]))
		note(9, key, val != confirmed)
		note(11, key, r.gone[k[0]])
	}
	for net, b := range r.blocks {
		key, owners, lies, dead := "block/"+net, 0, false, false
		for k, val := range r.affs {
			if k[1] == net && val == confirmed {
				owners++
			}
		}
		for _, p := range r.pools {
			lies = lies || inPool(p, b.Addr)
		}
		for a := range uint32(64) {
			t, ok := b.Of(b.Addr + a)
			dead = dead || ok && r.gone[t.Node]
		}
		note(3, key, b.Aff != "" && r.affs[[2]string{b.Aff, net}] == "")
		note(4, key, owners > 1)
		note(5, key, !lies)
		note(10, key, b.Aff == "" && len(b.Free) == 64)
		note(11, key, dead)
	}
	for key, p := range r.pools {
		meets := false
		for other, q := range r.pools {
			meets = meets || other < key && (inPool(p, q.Net.Addr) || inPool(q, p.Net.Addr))
		}
		note(6, key, meets)
	}
	return append(l, r.ofHandles()...)
}

func (r records) ofHandles() []audit.Flaw {
	var l []audit.Flaw
	for k := range 5 {
		id := "h" + strconv.Itoa(k)
		h, there := r.handles[id]
		short, over := false, false
		for _, b := range r.blocks {
			short = short || given(b, id) > h.Of(b.Addr)
		}
		for _, c := range h.Counts {
			n := 0
			for _, b := range r.blocks {
				if b.Addr == c.Block {
					n = given(b, id)
				}
			}
			over = over || c.N > n
		}
		if short {
			l = append(l, flaw(7, "handle/"+id))
		}
		if there && over {
			l = append(l, flaw(8, "handle/"+id))
		}
	}
	return l
}

// anyItems tells items of which much is wrong: of few nets, nodes and handles, so that they have to do with one another.
func anyItems(chance *rand.Rand) []kv.Item {
	var l []kv.Item
	nets := []string{"10.0.0.0-26", "10.0.0.64-26", "10.0.0.128-26", "10.0.1.0-26"}
	for k := range 4 {
		if chance.Intn(3) > 0 {
			l = append(l, item("node/n"+strconv.Itoa(k), []string{present, gone}[chance.Intn(2)]))
		}
		if chance.Intn(4) > 0 {
			l = append(l, item("handle/h"+strconv.Itoa(k), handleOf(chance.Intn(4), chance.Intn(4), chance.Intn(2), chance.Intn(2))))
		}
		for _, net := range nets {
			if chance.Intn(3) == 0 {
				l = append(l, item("aff/n"+strconv.Itoa(k)+"/"+net, []string{pending, confirmed, confirmed, leaving}[chance.Intn(4)]))
			}
		}
	}
	for k, net := range nets {
		var s []share
		for range chance.Intn(4) {
			s = append(s, share{"h" + strconv.Itoa(chance.Intn(4)), "n" + strconv.Itoa(chance.Intn(4)), 1 + chance.Intn(2)})
		}
		if chance.Intn(4) > 0 {
			addr := base + uint32(k)*64 + uint32(k/3)*64
			l = append(l, item("block/"+net, blockOf(addr, []string{"", "n0", "n1", "n2"}[chance.Intn(4)], s...)))
		}
	}
	for _, it := range []kv.Item{pool(), item("pool/10.0.0.0-25", "P\x0a\x00\x00\x00\x19\x01"), item("pool/10.0.0.128-26", "P\x0a\x00\x00\x80\x1a\x00"), item("pool/10.0.1.0-24", "P\x0a\x00\x01\x00\x18\x00"), item("lock", "L")} {
		if chance.Intn(3) == 0 {
			l = append(l, it)
		}
	}
	return l
}

// P33.1: whatever the items say, the flaws are those that one tells that goes through them kind by kind.
func TestWhateverIsThere(t *testing.T) {
	chance := rand.New(rand.NewSource(3))
	var seen [12]int
	for range 600 {
		l := anyItems(chance)
		want := recordsOf(l).flaws()
		slices.SortFunc(want, func(a, b audit.Flaw) int { return cmp.Or(a.Kind-b.Kind, strings.Compare(a.Key, b.Key)) })
		wantFlaws(t, fmt.Sprintf("%+v", l), l, want...)
		for kind, n := range audit.Counts(want) {
			seen[kind] += n
		}
		if t.Failed() {
			return
		}
	}
	for kind := 2; kind <= 11; kind++ {
		if seen[kind] < 100 {
			t.Errorf("too little was tried: of the kind %d there were %d", kind, seen[kind])
		}
	}
}

// What is told is written into by nobody else, and since when an item is, is not asked for.
func TestListsAreApart(t *testing.T) {
	l := []kv.Item{item(n1Key, confirmed), item(n2Key, pending), {Key: "node/n1", Val: gone, Rev: math.MinInt64}}
	first := audit.Check(l, true)
	kept := slices.Clone(first)
	second := audit.Check(l, true)
	clear(second)
	_ = append(second[:1], flaw(1, "x"))
	if !slices.Equal(first, kept) || !slices.Equal(audit.Check(l, true), kept) {
		t.Errorf("told are %v, then %v; want %v", first, audit.Check(l, true), kept)
	}
	clear(l)
	if !slices.Equal(first, kept) {
		t.Error("the items are kept")
	}
}

// Many items of each kind are checked, too.
func TestMany(t *testing.T) {
	var l []kv.Item
	var want []audit.Flaw
	for k := range 600 {
		net := "10.0." + strconv.Itoa(k/4) + "." + strconv.Itoa(k%4*64) + "-26"
		l = append(l, item("block/"+net, blockOf(base+uint32(k)*64, "n1", share{"h1", "n1", 1})), item("aff/n1/"+net, confirmed))
		want = append(want, flaw(audit.Homeless, "block/"+net))
	}
	slices.SortFunc(want, func(a, b audit.Flaw) int { return cmp.Compare(a.Key, b.Key) })
	n := slices.Repeat([]int{1}, 600)
	l = append(l, item("handle/h1", handleOf(n...)))
	if got := audit.Check(l, true); !slices.Equal(got, want) {
		t.Errorf("%d flaws; want %d", len(got), len(want))
	}
}
