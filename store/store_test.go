package store_test

import (
	"encoding/binary"
	"fmt"
	"hash/crc32"
	"math"
	"math/rand"
	"reflect"
	"slices"
	"strings"
	"testing"

	"virgate/api"
	"virgate/disk"
	"virgate/kv"
	"virgate/store"
)

func create(key, val string) kv.Op { return kv.Op{Kind: kv.Create, Key: key, Val: val} }

func has(key, val string, rev int64) kv.Effect { return kv.Effect{Key: key, Val: val, Rev: rev} }

func gone(key string, rev int64) kv.Effect { return kv.Effect{Key: key, Rev: rev, Gone: true} }

func castagnoli(s string) uint32 {
	return crc32.Checksum([]byte(s), crc32.MakeTable(crc32.Castagnoli))
}

func wide(n int64) string {
	return string(binary.BigEndian.AppendUint64(nil, uint64(n)))
}

func long(s string) string {
	return string(binary.BigEndian.AppendUint32(nil, uint32(len(s)))) + s
}

// effectText tells an effect's bytes, by another writer.
func effectText(x kv.Effect) string {
	kind := "\x01"
	if x.Gone {
		kind = "\x02"
	}
	return kind + wide(x.Rev) + long(x.Key) + long(x.Val)
}

// stateText tells a state's bytes, by another writer.
func stateText(rev int64, l ...kv.Item) string {
	b := wide(rev) + string(binary.BigEndian.AppendUint32(nil, uint32(len(l))))
	for _, it := range l {
		b += wide(it.Rev) + long(it.Key) + long(it.Val)
	}
	return b
}

// sealed tells bytes with their sum behind them, by another writer.
func sealed(s string) string {
	return s + string(binary.LittleEndian.AppendUint32(nil, castagnoli(s)))
}

// framed tells the frames of records, by another writer.
func framed(records ...string) string {
	var b []byte
	for _, p := range records {
		b = binary.BigEndian.AppendUint32(b, uint32(len(p)))
		b = binary.BigEndian.AppendUint32(b, castagnoli(p))
		b = append(b, p...)
	}
	return string(b)
}

// logText tells the log of these effects.
func logText(l ...kv.Effect) string {
	var records []string
	for _, x := range l {
		records = append(records, effectText(x))
	}
	return framed(records...)
}

// put lets a disk have a file, all of it sure.
func put(d *disk.Disk, name, b string) {
	if b != "" {
		d.Append(name, []byte(b))
		d.Sync(name)
	}
}

// on tells a disk with these files, as far as they have bytes.
func on(snap, log string) *disk.Disk {
	d := disk.New()
	put(d, "snap", snap)
	put(d, "log", log)
	return d
}

// file tells a file's bytes.
func file(d *disk.Disk, name string) string {
	b, _ := d.Read(name)
	return string(b)
}

// spent tells how many writes a disk does in f: it is armed with one more each time, up to the first time that it is not lost.
func spent(start func() *disk.Disk, f func(d *disk.Disk)) int {
	for n := range 100 {
		d := start()
		d.Arm(n)
		f(d)
		if !d.Lost() {
			return n
		}
	}
	return -1
}

// show tells how a thing of any kind looks, as far as that is not too long.
func show(x any) string {
	return fmt.Sprintf("%.300s", fmt.Sprintf("%#v", x))
}

// want holds an error against another one.
func want(t *testing.T, what string, got, e api.Errno) {
	t.Helper()
	if got != e {
		t.Errorf("%s = %d; want %d", what, got, e)
	}
}

// open tells the store that a disk has.
func open(t *testing.T, d *disk.Disk, every int) *store.Store {
	t.Helper()
	s, e := store.Open(d, every)
	if s == nil || e != api.OK {
		t.Fatalf("Open = %d, a store: %v", e, s != nil)
	}
	return s
}

// wantNone holds that Open is refused.
func wantNone(t *testing.T, what string, d *disk.Disk, want api.Errno) {
	t.Helper()
	if s, e := store.Open(d, 3); s != nil || e != want {
		t.Errorf("%s: Open = %d, a store: %v; want %d", what, e, s != nil, want)
	}
}

// wantStands holds how a store stands.
func wantStands(t *testing.T, what string, s *store.Store, log int, dead bool, rev int64, l ...kv.Item) {
	t.Helper()
	if s.Log() != log || s.Dead() != dead || s.Rev() != rev || !slices.Equal(s.All(), l) {
		t.Errorf("%s: Log %d, Dead %v, Rev %d, All %s; want %d, %v, %d, %s", what, s.Log(), s.Dead(), s.Rev(), show(s.All()), log, dead, rev, show(l))
	}
}

// wantDo holds what is told.
func wantDo(t *testing.T, what string, s *store.Store, o kv.Op, want kv.Result) {
	t.Helper()
	if r := s.Do(o); !reflect.DeepEqual(r, want) {
		t.Errorf("%s: Do(%s) = %s; want %s", what, show(o), show(r), show(want))
	}
}

// each is one operation of each kind, and such as can't be done: of a state that has the item a since revision 1.
func each() []kv.Op {
	return []kv.Op{
		{Kind: kv.Get, Key: "a"}, {Kind: kv.Get, Key: "none"}, {Kind: kv.List}, {Kind: kv.List, Key: "none"},
		create("b", "x"), create("a", "x"), create("", "x"), {Kind: kv.Update, Key: "a", Val: "y", Rev: 1}, {Kind: kv.Update, Key: "a", Rev: 7},
		{Kind: kv.Delete, Key: "a", Rev: 1}, {Kind: kv.Delete, Key: "none", Rev: 1}, {Kind: kv.Create, Key: "b", If: "a", IfRev: 2}, {}, {Kind: 6},
	}
}

// wantDead holds that a store does nothing any more, and asks nothing of its disk, but tells what it had.
func wantDead(t *testing.T, what string, s *store.Store, log int, rev int64, l ...kv.Item) {
	t.Helper()
	for range 2 {
		wantStands(t, what, s, log, true, rev, l...)
		for _, o := range each() {
			wantDo(t, what, s, o, kv.Result{Code: api.ErrLost})
		}
		want(t, what+": Compact", s.Compact(), api.ErrLost)
	}
}

// P11.1, P11.2, P11.3: the example.
func TestExample(t *testing.T) {
	for _, every := range []int{1, 2, 100} {
		d := disk.New()
		wantDo(t, "at first", open(t, d, every), create("a", "x"), kv.Result{Rev: 1})
		d.Crash(nil)
		wantStands(t, "behind a crash", open(t, d, every), 0, false, 1, kv.Item{Key: "a", Val: "x", Rev: 1})
	}
}

// P11.1: of a disk without files the state is New, and none is made; nor does any other file matter.
func TestOpenOfNothing(t *testing.T) {
	d := disk.New()
	put(d, "snap~", sealed(stateText(7)))
	put(d, "Log", logText(has("a", "", 1)))
	names := d.Names()
	d.Arm(0)
	wantStands(t, "no files", open(t, d, 3), 0, false, 0)
	if d.Lost() || !slices.Equal(d.Names(), names) {
		t.Errorf("Open has written: %q", d.Names())
	}
}

var (
	a1 = kv.Item{Key: "a", Val: "x", Rev: 1}
	b4 = kv.Item{Key: "b", Val: "\x00\xff", Rev: 4}
)

// P11.1: what was saved, and what the log says behind it, in its order.
func TestOpen(t *testing.T) {
	for what, c := range map[string]struct {
		snap, log string
		rev       int64
		l         []kv.Item
	}{
		"a state alone":               {sealed(stateText(4, a1, b4)), "", 4, []kv.Item{a1, b4}},
		"an empty state":              {sealed(stateText(0)), "", 0, nil},
		"an empty state, later":       {sealed(stateText(9)), "", 9, nil},
		"a log alone":                 {"", logText(has("a", "x", 1)), 1, []kv.Item{a1}},
		"a log of many":               {"", logText(has("b", "1", 1), has("a", "2", 2), has("b", "", 3), gone("a", 4), has("c", "", 5), gone("b", 6)), 6, []kv.Item{{Key: "c", Rev: 5}}},
		"both":                        {sealed(stateText(4, a1, b4)), logText(has("a", "y", 5), gone("b", 6)), 6, []kv.Item{{Key: "a", Val: "y", Rev: 5}}},
		"all passed over":             {sealed(stateText(4, a1, b4)), logText(has("a", "x", 1), has("c", "", 2), gone("c", 3), has("b", "\x00\xff", 4)), 4, []kv.Item{a1, b4}},
		"some passed over":            {sealed(stateText(4, a1, b4)), logText(has("b", "\x00\xff", 4), gone("a", 5)), 5, []kv.Item{b4}},
		"passed over, in no order":    {sealed(stateText(4, a1, b4)), logText(gone("none", 2), has("a", "old", 4), has("a", "old", 1), gone("b", 4)), 4, []kv.Item{a1, b4}},
		"passed over behind another":  {"", logText(has("a", "x", 1), has("a", "y", 1), has("b", "y", 2), gone("a", 1), gone("b", 2)), 2, []kv.Item{a1, {Key: "b", Val: "y", Rev: 2}}},
		"the greatest revision":       {sealed(stateText(math.MaxInt64, a1)), logText(gone("a", math.MaxInt64)), math.MaxInt64, []kv.Item{a1}},
		"up to the greatest revision": {sealed(stateText(math.MaxInt64-1, a1)), logText(gone("a", math.MaxInt64)), math.MaxInt64, nil},
	} {
		start := func() *disk.Disk { return on(c.snap, c.log) }
		d := start()
		wantStands(t, what, open(t, d, 2), 0, false, c.rev, c.l...)
		wantStands(t, what+", once more", open(t, d, 2), 0, false, c.rev, c.l...)
		if file(d, "snap") != c.snap || file(d, "log") != c.log {
			t.Errorf("%s: Open has changed the files", what)
		}
		if n := spent(start, func(d *disk.Disk) { open(t, d, 2) }); n != 0 {
			t.Errorf("%s: Open has done %d writes", what, n)
		}
	}
}

// P11.1: what is left of a frame is no record: the log goes on ahead of it.
func TestOpenOfATornLog(t *testing.T) {
	whole := logText(has("a", "x", 1), has("b", "", 2))
	first := len(logText(has("a", "x", 1)))
	for n := first; n < len(whole); n++ {
		d := on("", whole[:n])
		s := open(t, d, 9)
		wantStands(t, "torn", s, 0, false, 1, a1)
		wantDo(t, "torn", s, create("c", "z"), kv.Result{Rev: 2})
		if file(d, "log") != logText(has("a", "x", 1), has("c", "z", 2)) {
			t.Errorf("behind a torn log there are %q", file(d, "log"))
		}
	}
}

// P11.1: what Open of the log writes, and the disk's error at it.
func TestOpenWrites(t *testing.T) {
	log := logText(has("a", "x", 1))
	loose := func(b string) func() *disk.Disk {
		return func() *disk.Disk {
			d := on("", "")
			d.Append("log", []byte(b))
			return d
		}
	}
	for what, start := range map[string]func() *disk.Disk{"not sure": loose(log), "torn": loose(log + "x")} {
		if n := spent(start, func(d *disk.Disk) { store.Open(d, 1) }); n != 1 {
			t.Errorf("%s: Open has done %d writes; want 1", what, n)
		}
		d := start()
		d.Arm(0)
		wantNone(t, what, d, api.ErrLost)
		d = start()
		wantStands(t, what, open(t, d, 1), 0, false, 1, a1)
		d.Crash(nil)
		wantStands(t, what+", behind a crash", open(t, d, 1), 0, false, 1, a1)
	}
}

// P11.1: a file snap that is not whole, or has no state's bytes.
func TestOpenOfNoState(t *testing.T) {
	// Not of a small revision: four noughts are whole.
	right := stateText(math.MaxInt64, a1, b4)
	for n := range len(sealed(right)) {
		wantNone(t, "cut off", cutOff(sealed(right), n), api.ErrSum)
		turned := []byte(sealed(right))
		turned[n] ^= 1
		wantNone(t, "turned", on(string(turned), ""), api.ErrSum)
	}
	for n := range len(right) {
		wantNone(t, "a state that is cut off", on(sealed(right[:n]), ""), api.ErrForm)
	}
	for what, b := range map[string]string{
		"more behind":            right + "\x00",
		"sealed twice":           sealed(right),
		"a revision below 0":     stateText(-1),
		"keys that do not rise":  stateText(4, b4, a1),
		"one key twice":          stateText(4, a1, a1),
		"a revision above":       stateText(3, a1, b4),
		"a revision of 0":        stateText(3, kv.Item{Key: "a"}),
		"no key":                 stateText(3, kv.Item{Rev: 1}),
		"too long a key":         stateText(3, kv.Item{Key: strings.Repeat("k", 129), Rev: 1}),
		"too long a value":       stateText(3, kv.Item{Key: "k", Val: strings.Repeat("v", 65537), Rev: 1}),
		"an effect":              effectText(has("a", "x", 1)),
		"a frame":                framed(right),
		"how many there are not": wide(4) + "\x00\x00\x00\x01",
	} {
		wantNone(t, what, on(sealed(b), ""), api.ErrForm)
		wantNone(t, what+", with a log", on(sealed(b), logText(has("a", "x", 1))), api.ErrForm)
	}
}

// cutOff tells a disk whose file snap has the first n bytes of b.
func cutOff(b string, n int) *disk.Disk {
	d := disk.New()
	d.Append("snap", []byte(b[:n]))
	d.Sync("snap")
	return d
}

// P11.1: records that are no effects, or can't be applied in their turn, wherever they stand.
func TestOpenOfNoEffects(t *testing.T) {
	for what, p := range map[string]string{
		"no effect":                 "x",
		"a kind that there isn't":   "\x03" + effectText(has("b", "", 2))[1:],
		"cut off":                   effectText(has("b", "y", 2))[:18],
		"more behind":               effectText(has("b", "y", 2)) + "\x00",
		"no key":                    effectText(has("", "y", 2)),
		"gone, with a value":        effectText(kv.Effect{Key: "a", Val: "x", Rev: 2, Gone: true}),
		"too long a key":            effectText(has(strings.Repeat("k", 129), "", 2)),
		"revision 0":                effectText(has("b", "y", 0)),
		"revision -1":               effectText(has("b", "y", -1)),
		"an old one that is none":   effectText(has("b", "y", 1)) + "\x00",
		"old, gone, with a value":   effectText(kv.Effect{Key: "a", Val: "x", Rev: 1, Gone: true}),
		"a state":                   stateText(1, a1),
		"a revision that comes not": effectText(has("b", "y", 4)),
		"gone, but never there":     effectText(gone("none", 3)),
	} {
		ahead := []string{effectText(has("a", "x", 1)), effectText(has("a", "x", 2))}
		behind := effectText(has("c", "", 3))
		wantNone(t, what+", at last", on("", framed(append(ahead, p)...)), api.ErrForm)
		wantNone(t, what+", between", on("", framed(append(ahead, p, behind)...)), api.ErrForm)
		wantNone(t, what+", behind a state", on(sealed(stateText(2, a1)), framed(p, behind)), api.ErrForm)
		wantNone(t, what+", behind one passed over", on(sealed(stateText(2, a1)), framed(ahead[0], ahead[1], p)), api.ErrForm)
	}
	wantNone(t, "revision 2 at first", on("", logText(has("a", "", 2))), api.ErrForm)
	wantNone(t, "gone at first", on("", logText(gone("a", 1))), api.ErrForm)
	wantNone(t, "gone twice", on("", logText(has("a", "", 1), gone("a", 2), gone("a", 3))), api.ErrForm)
	wantNone(t, "the greatest revision", on("", logText(has("a", "", math.MaxInt64))), api.ErrForm)
}

// P11.1: the first error is told, and what comes behind it is not done.
func TestOpenErrors(t *testing.T) {
	wantNone(t, "a nil disk", nil, api.ErrNil)

	for what, snap := range map[string]string{"not whole": "abcde", "no state": sealed("abc")} {
		code := api.ErrSum
		if what == "no state" {
			code = api.ErrForm
		}
		d := on(snap, "torn")
		wantNone(t, what+" ahead of a torn log", d, code)
		if file(d, "log") != "torn" {
			t.Errorf("%s: the log was opened", what)
		}
		d.Arm(0)
		wantNone(t, what+" ahead of a log that can't be written", d, code)
		wantNone(t, what+" ahead of no effects", on(snap, framed("x")), code)
	}

	d := on("", framed("x")+"torn")
	d.Arm(0)
	wantNone(t, "a log that can't be written, ahead of no effects", d, api.ErrLost)
	wantNone(t, "a lost disk with a log", d, api.ErrLost)

	d = on("not whole", "")
	d.Arm(0)
	d.Sync("snap")
	wantNone(t, "a lost disk with a file that is not whole", d, api.ErrLost)

	// Of a lost disk, too, the disk tells of files that are not there that there are none.
	d = disk.New()
	d.Arm(0)
	want(t, "Append", d.Append("x", nil), api.ErrLost)
	s := open(t, d, 1)
	wantStands(t, "a lost disk without files", s, 0, false, 0)
	wantDo(t, "a lost disk without files", s, create("a", "x"), kv.Result{Code: api.ErrLost})
	wantDead(t, "a lost disk without files", s, 0, 0)
}

// P11.1, P11.2: every is 1, if that is below 1.
func TestEvery(t *testing.T) {
	for _, every := range []int{math.MinInt, -1, 0, 1, 2, 3, 10, math.MaxInt} {
		d := disk.New()
		s := open(t, d, every)
		real := max(every, 1)
		for n := range 25 {
			wantDo(t, "Create", s, create(fmt.Sprint("k", n), ""), kv.Result{Rev: int64(n + 1)})
			if log := n%real + 1; s.Log() != log {
				t.Errorf("every %d: behind %d writes Log = %d; want %d", every, n+1, s.Log(), log)
			}
			if saved := n >= real; slices.Contains(d.Names(), "snap") != saved {
				t.Errorf("every %d: behind %d writes there are %q", every, n+1, d.Names())
			}
		}
	}
}

// P11.1, P11.2: how often it is compacted is told anew by each Open; what stood in the log ahead is not counted.
func TestEveryBehindOpen(t *testing.T) {
	d := disk.New()
	s := open(t, d, 100)
	for n := range 7 {
		s.Do(create(fmt.Sprint("k", n), ""))
	}
	s = open(t, d, 2)
	wantDo(t, "one", s, create("x", ""), kv.Result{Rev: 8})
	wantDo(t, "two", s, create("y", ""), kv.Result{Rev: 9})
	if s.Log() != 2 || slices.Contains(d.Names(), "snap") {
		t.Errorf("Log = %d, files %q", s.Log(), d.Names())
	}
	wantDo(t, "three", s, create("z", ""), kv.Result{Rev: 10})
	if s.Log() != 1 || file(d, "log") != logText(has("z", "", 10)) {
		t.Errorf("Log = %d, the log %q", s.Log(), file(d, "log"))
	}
}

// P11.2: a write appends its effect, and is sure: two writes of the disk; nothing else writes.
func TestDoWrites(t *testing.T) {
	start := func() *disk.Disk { return on(sealed(stateText(4, a1, b4)), logText(gone("b", 5))) }
	for _, o := range each() {
		state, _ := kv.Of(5, []kv.Item{a1})
		want, x, writes := state.Plan(o)
		count, log := 0, logText(gone("b", 5))
		if writes {
			count, log = 2, log+logText(x)
			state.Apply(x)
		}
		if n := spent(start, func(d *disk.Disk) { open(t, d, 3).Do(o) }); n != count {
			t.Errorf("%s: %d writes of the disk; want %d", show(o), n, count)
		}
		d := start()
		s := open(t, d, 3)
		wantDo(t, "each", s, o, want)
		wantStands(t, "each", s, count/2, false, state.Rev(), state.All()...)
		d.Crash(nil)
		if file(d, "log") != log || file(d, "snap") != sealed(stateText(4, a1, b4)) {
			t.Errorf("%s: the log has %q; want %q", show(o), file(d, "log"), log)
		}
		wantStands(t, "each, behind a crash", open(t, d, 3), 0, false, state.Rev(), state.All()...)
	}
}

// P11.2: behind so many writes it is compacted, whatever is asked then: four writes of the disk, ahead of all others.
func TestDoCompacts(t *testing.T) {
	begin := func(t *testing.T, d *disk.Disk) *store.Store {
		s := open(t, d, 2)
		s.Do(create("a", "x"))
		s.Do(create("b", ""))
		return s
	}
	items := []kv.Item{a1, {Key: "b", Rev: 2}}
	for _, o := range each() {
		state, _ := kv.Of(2, items)
		want, x, writes := state.Plan(o)
		count, log := 0, ""
		if writes {
			count, log = 1, logText(x)
			state.Apply(x)
		}
		d := disk.New()
		s := begin(t, d)
		if s.Log() != 2 || slices.Contains(d.Names(), "snap") {
			t.Errorf("ahead of it: Log = %d, files %q", s.Log(), d.Names())
		}
		wantDo(t, "each", s, o, want)
		wantStands(t, "each", s, count, false, state.Rev(), state.All()...)
		if file(d, "snap") != sealed(stateText(2, items...)) || file(d, "log") != log || !slices.Equal(d.Names(), []string{"log", "snap"}) {
			t.Errorf("%s: files %q: snap %q, log %q; want log %q", show(o), d.Names(), file(d, "snap"), file(d, "log"), log)
		}
		if n := spent(disk.New, func(d *disk.Disk) { begin(t, d).Do(o) }); n != 4+4+2*count {
			t.Errorf("%s: %d writes of the disk; want %d", show(o), n, 4+4+2*count)
		}
	}
}

// P11.2: at each write of the disk it may go away: then ErrLost is told, nothing was done, and the store is dead, even if the disk comes back.
func TestDoIsLost(t *testing.T) {
	b2 := kv.Item{Key: "b", Rev: 2}
	for every, writes := range map[int]int{1: 6, 2: 6, 3: 2} {
		for n := range writes {
			d := on("", "")
			s := open(t, d, every)
			s.Do(create("a", "x"))
			s.Do(create("b", ""))
			log := s.Log()
			if every == 1 && log != 1 || every > 1 && log != 2 {
				t.Fatalf("every %d: Log = %d", every, log)
			}
			d.Arm(n)
			wantDo(t, "lost", s, create("c", ""), kv.Result{Code: api.ErrLost})
			// The first four writes compact, if it is time for that; behind them nothing is counted.
			if every < 3 && n >= 4 {
				log = 0
			}
			wantDead(t, fmt.Sprintf("every %d, write %d", every, n), s, log, 2, a1, b2)
			d.Crash(nil)
			wantDead(t, fmt.Sprintf("every %d, write %d, behind a crash", every, n), s, log, 2, a1, b2)
			wantStands(t, "opened anew", open(t, d, every), 0, false, 2, a1, b2)
		}
	}
}

// P11.2: what only reads, too, is told ErrLost, if the disk goes away where it is compacted.
func TestReadIsLost(t *testing.T) {
	for _, o := range each() {
		for n := range 4 {
			d := disk.New()
			s := open(t, d, 1)
			s.Do(create("a", "x"))
			d.Arm(n)
			wantDo(t, "lost", s, o, kv.Result{Code: api.ErrLost})
			wantDead(t, "lost", s, 1, 1, a1)
			d.Crash(nil)
			wantStands(t, "opened anew", open(t, d, 1), 0, false, 1, a1)
		}
	}
}

// P11.2: a disk that is lost is told of at the first write; what is read needs none.
func TestDeadIsToldLate(t *testing.T) {
	d := disk.New()
	s := open(t, d, 9)
	s.Do(create("a", "x"))
	d.Arm(0)
	d.Sync("log")
	wantStands(t, "a lost disk", s, 1, false, 1, a1)
	wantDo(t, "Get", s, kv.Op{Kind: kv.Get, Key: "a"}, kv.Result{Rev: 1, Val: "x"})
	wantDo(t, "List", s, kv.Op{Kind: kv.List}, kv.Result{Rev: 1, Items: []kv.Item{a1}})
	wantDo(t, "a write that is refused", s, create("a", "y"), kv.Result{Code: api.ErrThere})
	wantStands(t, "a lost disk", s, 1, false, 1, a1)
	wantDo(t, "a write", s, create("b", "y"), kv.Result{Code: api.ErrLost})
	wantDead(t, "a lost disk", s, 1, 1, a1)
}

// P11.2: Compact saves the state, and clears the log, and tells the first error.
func TestCompact(t *testing.T) {
	d := disk.New()
	s := open(t, d, 100)
	want(t, "Compact of nothing", s.Compact(), api.OK)
	wantStands(t, "of nothing", s, 0, false, 0)
	if !slices.Equal(d.Names(), []string{"snap"}) || file(d, "snap") != sealed(stateText(0)) {
		t.Errorf("files %q, snap %q", d.Names(), file(d, "snap"))
	}
	s.Do(create("a", "x"))
	s.Do(create("z", ""))
	s.Do(kv.Op{Kind: kv.Delete, Key: "z", Rev: 2})
	s.Do(create("b", "\x00\xff"))
	for range 2 {
		put(d, "snap~", "left over")
		want(t, "Compact", s.Compact(), api.OK)
		wantStands(t, "Compact", s, 0, false, 4, a1, b4)
		if !slices.Equal(d.Names(), []string{"log", "snap"}) || file(d, "snap") != sealed(stateText(4, a1, b4)) || file(d, "log") != "" {
			t.Errorf("files %q, snap %q, log %q", d.Names(), file(d, "snap"), file(d, "log"))
		}
	}
	d.Crash(nil)
	wantStands(t, "behind a crash", open(t, d, 1), 0, false, 4, a1, b4)
}

// P11.2: at each write of Compact the disk may go away.
func TestCompactIsLost(t *testing.T) {
	for n := range 5 {
		d := disk.New()
		s := open(t, d, 100)
		s.Do(create("a", "x"))
		put(d, "snap~", "left over")
		d.Arm(n)
		want(t, "Compact", s.Compact(), api.ErrLost)
		wantDead(t, "Compact", s, 1, 1, a1)
		d.Crash([]uint16{65535, 65535, 65535})
		wantDead(t, "behind a crash", s, 1, 1, a1)
		wantStands(t, "opened anew", open(t, d, 1), 0, false, 1, a1)
	}
}

// P11.2, P1: of a nil store.
func TestNil(t *testing.T) {
	var s *store.Store
	for _, o := range each() {
		wantDo(t, "nil", s, o, kv.Result{Code: api.ErrNil})
	}
	want(t, "Compact", s.Compact(), api.ErrNil)
	wantStands(t, "nil", s, 0, true, 0)
}

// P1: a store that was made by hand does not panic.
func TestMadeByHand(t *testing.T) {
	for _, s := range []*store.Store{{}, new(store.Store)} {
		wantStands(t, "by hand", s, 0, false, 0)
		for _, o := range each() {
			if r := s.Do(o); r.Code == api.OK {
				t.Errorf("Do = %s", show(r))
			}
		}
		if s.Compact() == api.OK || s.Rev() != 0 || len(s.All()) != 0 {
			t.Error("by hand")
		}
	}
}

// P11.1, P11.2: stores on disks of their own have nothing in common.
func TestTwoStores(t *testing.T) {
	d, other := disk.New(), disk.New()
	s, r := open(t, d, 1), open(t, other, 1)
	s.Do(create("a", "x"))
	wantStands(t, "the other one", r, 0, false, 0)
	d.Arm(0)
	s.Do(create("b", ""))
	wantDo(t, "the other one", r, create("c", ""), kv.Result{Rev: 1})
	wantDead(t, "the first one", s, 1, 1, a1)
}

// P11.2: what a caller writes into an answer is seen nowhere.
func TestAnswersAreNew(t *testing.T) {
	d := disk.New()
	s := open(t, d, 100)
	s.Do(create("a", "x"))
	s.Do(create("b", "y"))
	b2 := kv.Item{Key: "b", Val: "y", Rev: 2}
	for range 2 {
		l := s.All()
		l[0] = kv.Item{Key: "spoilt"}
		_ = append(l[:1], kv.Item{Key: "spoilt"})
		l = s.Do(kv.Op{Kind: kv.List}).Items
		l[1] = kv.Item{Key: "spoilt"}
		wantStands(t, "All", s, 2, false, 2, a1, b2)
		wantDo(t, "List", s, kv.Op{Kind: kv.List}, kv.Result{Rev: 2, Items: []kv.Item{a1, b2}})
	}
	s.Compact()
	wantStands(t, "opened anew", open(t, d, 1), 0, false, 2, a1, b2)
}

// P11.2: keys and values of the greatest lengths stay, too.
func TestLongest(t *testing.T) {
	key, val := strings.Repeat("k", 128), strings.Repeat("v", 65536)
	for _, every := range []int{1, 9} {
		d := disk.New()
		s := open(t, d, every)
		wantDo(t, "longest", s, create(key, val), kv.Result{Rev: 1})
		wantDo(t, "too long", s, create(key+"k", val), kv.Result{Code: api.ErrArg})
		wantDo(t, "too long", s, create("k", val+"v"), kv.Result{Code: api.ErrArg})
		d.Crash(nil)
		wantStands(t, "longest", open(t, d, 1), 0, false, 1, kv.Item{Key: key, Val: val, Rev: 1})
	}
}

// anyOp tells an operation of a few keys, whose revisions are often right.
func anyOp(chance *rand.Rand, state *kv.State) kv.Op {
	keys := []string{"a", "b", "c", "ab", ""}
	o := kv.Op{Kind: chance.Intn(7), Key: keys[chance.Intn(len(keys))], Val: strings.Repeat("v", chance.Intn(4)), Rev: int64(chance.Intn(5))}
	if chance.Intn(4) > 0 {
		o.Rev = state.Do(kv.Op{Kind: kv.Get, Key: o.Key}).Rev
	}
	if chance.Intn(4) == 0 {
		o.If = keys[chance.Intn(len(keys))]
		o.IfRev = state.Do(kv.Op{Kind: kv.Get, Key: o.If}).Rev + int64(chance.Intn(3)/2)
	}
	return o
}

// P11.1, P11.2: a store tells all that a state tells; behind a crash it goes on.
func TestAgainstAState(t *testing.T) {
	chance := rand.New(rand.NewSource(11))
	for round := range 60 {
		every := round%7 - 1
		d, state := disk.New(), kv.New()
		s := open(t, d, every)
		log := 0
		for range 200 {
			o := anyOp(chance, state)
			rev := state.Rev()
			if log >= max(every, 1) {
				log = 0
			}
			wantDo(t, "any", s, o, state.Do(o))
			log += int(state.Rev() - rev)
			wantStands(t, "any", s, log, false, state.Rev(), state.All()...)
			switch chance.Intn(40) {
			case 0:
				want(t, "Compact", s.Compact(), api.OK)
				log = 0
			case 1:
				d.Crash([]uint16{uint16(chance.Intn(65536))})
				s, log = open(t, d, every), 0
			}
		}
	}
}

// matches tells whether a store has what a state has.
func matches(s *store.Store, state *kv.State) bool {
	return s.Rev() == state.Rev() && slices.Equal(s.All(), state.All())
}

// untilLost does any operations, sometimes compacting, till the disk is lost; it tells the state behind what was told, and that behind the one at which it was lost.
func untilLost(t *testing.T, chance *rand.Rand, s *store.Store, state *kv.State) (*kv.State, *kv.State) {
	t.Helper()
	for range 1000 {
		if chance.Intn(12) == 0 {
			if s.Compact() != api.OK {
				return state, state
			}
			continue
		}
		o := anyOp(chance, state)
		more, _ := kv.Of(state.Rev(), state.All())
		told := more.Do(o)
		r := s.Do(o)
		if r.Code == api.ErrLost {
			return state, more
		}
		if !reflect.DeepEqual(r, told) {
			t.Errorf("Do(%s) = %s; want %s", show(o), show(r), show(told))
		}
		state = more
	}
	t.Fatal("the disk was never lost")
	return nil, nil
}

// reopen lets the disk crash, maybe again and again while it is opened, and opens it.
func reopen(t *testing.T, chance *rand.Rand, d *disk.Disk, every int) *store.Store {
	t.Helper()
	for range 100 {
		d.Crash([]uint16{uint16(chance.Intn(65536)), uint16(chance.Intn(65536)), uint16(chance.Intn(65536))})
		if chance.Intn(2) == 0 {
			d.Arm(chance.Intn(2))
		}
		s, e := store.Open(d, every)
		if e == api.OK && !d.Lost() {
			d.Crash(nil)
			return open(t, d, every)
		}
		if e != api.ErrLost || s != nil {
			t.Fatalf("Open = %d, a store: %v", e, s != nil)
		}
	}
	return open(t, d, every)
}

// P11.3, P0.4: at whatever write the disk is lost, and whatever a crash leaves, the state is that behind all that was told, or behind one write more.
func TestCrashes(t *testing.T) {
	chance := rand.New(rand.NewSource(113))
	same, more := 0, 0
	for round := range 400 {
		every := round%5 + 1
		d, state := disk.New(), kv.New()
		s := open(t, d, every)
		for range 12 {
			d.Arm(chance.Intn(25))
			told, next := untilLost(t, chance, s, state)
			if !matches(s, told) {
				t.Fatalf("the dead store has %d, %s; want %d, %s", s.Rev(), show(s.All()), told.Rev(), show(told.All()))
			}
			s = reopen(t, chance, d, every)
			switch {
			case matches(s, told):
				same, state = same+1, told
			case matches(s, next):
				more, state = more+1, next
			default:
				t.Fatalf("behind a crash: %d, %s; want %d, %s, or %d, %s", s.Rev(), show(s.All()), told.Rev(), show(told.All()), next.Rev(), show(next.All()))
			}
		}
	}
	if same == 0 || more == 0 {
		t.Errorf("%d times there was no more, %d times there was", same, more)
	}
}

// P11.3: of one write that is lost, each number of bytes that a crash may leave.
func TestCrashLeavesAny(t *testing.T) {
	frames := len(logText(has("b", "yz", 2)))
	for n := range 2 {
		for left := range frames + 1 {
			d := disk.New()
			s := open(t, d, 9)
			s.Do(create("a", "x"))
			d.Arm(n)
			wantDo(t, "lost", s, create("b", "yz"), kv.Result{Code: api.ErrLost})
			d.Crash([]uint16{uint16(left)})
			s = open(t, d, 9)
			if left < frames {
				wantStands(t, "not come", s, 0, false, 1, a1)
				wantDo(t, "not come", s, create("c", ""), kv.Result{Rev: 2})
			} else {
				wantStands(t, "come", s, 0, false, 2, a1, kv.Item{Key: "b", Val: "yz", Rev: 2})
				wantDo(t, "come", s, create("c", ""), kv.Result{Rev: 3})
			}
		}
	}
}
