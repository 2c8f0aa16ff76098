package wal_test

import (
	"bytes"
	"encoding/binary"
	"hash/crc32"
	"math/rand"
	"slices"
	"strings"
	"testing"

	"virgate/api"
	"virgate/disk"
	"virgate/wal"
)

// framed tells the frames of records, by other writers of numbers and sums.
func framed(records ...string) string {
	var b []byte
	for _, p := range records {
		b = binary.BigEndian.AppendUint32(b, uint32(len(p)))
		b = binary.BigEndian.AppendUint32(b, crc32.Checksum([]byte(p), crc32.MakeTable(crc32.Castagnoli)))
		b = append(b, p...)
	}
	return string(b)
}

// on tells a disk with a file w of these bytes, of which the first ones are sure, and another file x, of which none is.
func on(sure, loose string) *disk.Disk {
	d := disk.New()
	d.Append("w", []byte(sure))
	d.Sync("w")
	d.Append("w", []byte(loose))
	d.Append("x", []byte("xyz"))
	return d
}

// wrong are bytes that are no frame, of each kind.
func wrong() map[string]string {
	turned := []byte(framed("abc"))
	turned[9] ^= 4
	return map[string]string{
		"a byte":                "\x00",
		"seven bytes":           "\x00\x00\x00\x01abc",
		"no record's number":    "\x00\x00\x00\x00\x00\x00\x00\x00",
		"too great a number":    "\x00\x10\x00\x01abcdefgh",
		"a torn frame":          framed("abc")[:10],
		"a sum that is wrong":   string(turned),
		"a frame behind a sum":  string(turned) + framed("de"),
		"a frame behind a hole": "\x00" + framed("de"),
	}
}

// want holds an error against another one.
func want(t *testing.T, what string, got, e api.Errno) {
	t.Helper()
	if got != e {
		t.Errorf("%s = %d; want %d", what, got, e)
	}
}

// wantFile holds what stands in a file of a disk that is not lost, of which all bytes are sure.
func wantFile(t *testing.T, what string, d *disk.Disk, name, file string) {
	t.Helper()
	if b, e := d.Read(name); string(b) != file || e != api.OK || d.Sure(name) != len(file) {
		t.Errorf("%s: %s has %.60q, %d, sure are %d; want %.60q", what, name, b, e, d.Sure(name), file)
	}
}

// wantOpen holds that Open is done, with these records, and tells the log.
func wantOpen(t *testing.T, what string, d *disk.Disk, records ...string) *wal.Log {
	t.Helper()
	l, got, e := wal.Open(d, "w")
	if l == nil || e != api.OK || !slices.Equal(texts(got), records) {
		t.Fatalf("%s: Open = %.60q, %d, a log: %v; want %.60q", what, got, e, l != nil, records)
	}
	wantLog(t, what, l, len(framed(records...)))
	return l
}

// wantNone holds that Open is refused.
func wantNone(t *testing.T, what string, d *disk.Disk, name string, want api.Errno) {
	t.Helper()
	if l, got, e := wal.Open(d, name); l != nil || len(got) != 0 || e != want {
		t.Errorf("%s: Open = %q, %d, a log: %v; want %d", what, got, e, l != nil, want)
	}
}

// wantLog holds the size of a log that is not dead.
func wantLog(t *testing.T, what string, l *wal.Log, size int) {
	t.Helper()
	if l.Dead() || l.Size() != size {
		t.Errorf("%s: Dead = %v, Size = %d; want false, %d", what, l.Dead(), l.Size(), size)
	}
}

// wantDead holds that a log does nothing any more.
func wantDead(t *testing.T, what string, l *wal.Log) {
	t.Helper()
	for range 2 {
		if !l.Dead() || l.Size() != 0 {
			t.Errorf("%s: Dead = %v, Size = %d; want true, 0", what, l.Dead(), l.Size())
		}
		want(t, what+": Append", l.Append([]byte("x")), api.ErrLost)
		want(t, what+": Append of no record", l.Append(nil), api.ErrLost)
		want(t, what+": Clear", l.Clear(), api.ErrLost)
	}
}

func texts(records [][]byte) []string {
	var l []string
	for _, p := range records {
		l = append(l, string(p))
	}
	return l
}

// spent tells how many writes a disk does in f: it is armed with one more each time, up to the first time that it is not lost.
func spent(start func() *disk.Disk, f func(d *disk.Disk)) int {
	for n := range 100 {
		d := start()
		d.Arm(n)
		f(d)
		if !d.Lost() {
			return n
		}
	}
	return -1
}

// P7.1, P7.3: the example.
func TestExample(t *testing.T) {
	d := disk.New()
	l := wantOpen(t, "at first", d)
	want(t, "Append", l.Append([]byte("abc")), api.OK)
	d.Arm(0)
	want(t, "Append", l.Append([]byte("defgh")), api.ErrLost)
	d.Crash([]uint16{6})
	wantOpen(t, "behind a crash", d, "abc")
	wantFile(t, "behind a crash", d, "w", framed("abc"))
}

// P7.1: where there is no file, there are no records, and none is made.
func TestOpenOfNoFile(t *testing.T) {
	d := disk.New()
	d.Arm(0)
	wantOpen(t, "no file", d)
	if d.Lost() || len(d.Names()) != 0 {
		t.Errorf("Open has written: %q", d.Names())
	}
	// Of a lost disk, too, the disk tells of a file that is not there that there is none.
	want(t, "Append", d.Append("x", nil), api.ErrLost)
	l := wantOpen(t, "a lost disk", d)
	want(t, "Append", l.Append([]byte("abc")), api.ErrLost)
	wantDead(t, "a lost disk", l)
}

// P7.1: the records of the file; if all is sure, nothing is written.
func TestOpen(t *testing.T) {
	long := strings.Repeat("z", api.MaxFrame)
	for _, records := range [][]string{nil, {"a"}, {"abc", "de", "abc"}, {"\x00"}, {framed("abc"), "\xff"}, {long, "a", long}} {
		start := func() *disk.Disk { return on(framed(records...), "") }
		d := start()
		wantOpen(t, "some records", d, records...)
		wantOpen(t, "once more", d, records...)
		wantFile(t, "some records", d, "w", framed(records...))
		if n := spent(start, func(d *disk.Disk) { wantOpen(t, "armed", d, records...) }); n != 0 {
			t.Errorf("Open of what is sure has done %d writes", n)
		}
	}
}

// P7.1: what is not sure is Synced: one write.
func TestOpenOfWhatIsNotSure(t *testing.T) {
	all := framed("abc", "de")
	for sure := range len(all) {
		start := func() *disk.Disk { return on(all[:sure], all[sure:]) }
		d := start()
		d.Arm(1)
		wantOpen(t, "not sure", d, "abc", "de")
		if d.Lost() {
			t.Error("Open has done two writes")
		}
		wantFile(t, "not sure", d, "w", all)
		if d.Sure("x") != 0 {
			t.Errorf("of another file %d bytes are sure", d.Sure("x"))
		}

		d = start()
		d.Arm(0)
		wantNone(t, "armed with 0", d, "w", api.ErrLost)
		if !d.Lost() || d.Sure("w") != sure {
			t.Errorf("Open has done no write: Lost = %v, sure are %d", d.Lost(), d.Sure("w"))
		}
	}
}

// P7.1: what stands behind the records is cut off, sure or not: one write.
func TestOpenCuts(t *testing.T) {
	for what, behind := range wrong() {
		for _, records := range [][]string{nil, {"abc"}, {"abc", "de", "f"}} {
			frames := framed(records...)
			all := frames + behind
			for _, sure := range []int{0, len(frames), len(frames) + 1, len(all)} {
				d := on(all[:sure], all[sure:])
				d.Arm(1)
				wantOpen(t, what, d, records...)
				if d.Lost() {
					t.Errorf("%s: Open has done two writes", what)
				}
				wantFile(t, what, d, "w", frames)

				d = on(all[:sure], all[sure:])
				d.Arm(0)
				wantNone(t, what, d, "w", api.ErrLost)
				d.Crash([]uint16{65535, 0})
				if b, _ := d.Read("w"); !strings.HasPrefix(string(b), all[:sure]) {
					t.Errorf("%s: behind a write that was not done there are %q", what, b)
				}
			}
		}
	}
}

// P7.1: what is appended to a log whose end was cut off is read behind a crash.
func TestAppendBehindACut(t *testing.T) {
	for what, behind := range wrong() {
		d := on(framed("abc"), behind)
		l := wantOpen(t, what, d, "abc")
		want(t, what, l.Append([]byte("new")), api.OK)
		d.Crash(nil)
		wantOpen(t, what, d, "abc", "new")
	}
}

// P7.1: the empty name comes ahead of the disk's errors; these are told.
func TestOpenErrors(t *testing.T) {
	lost := on(framed("abc"), "")
	lost.Arm(0)
	lost.Sync("w")
	for what, d := range map[string]*disk.Disk{"nil": nil, "empty": disk.New(), "some": on(framed("abc"), "d"), "lost": lost} {
		wantNone(t, "no name on a disk: "+what, d, "", api.ErrArg)
	}
	wantNone(t, "a nil disk", nil, "w", api.ErrNil)
	wantNone(t, "a lost disk", lost, "w", api.ErrLost)
}

// P7.1, P7.2: each log has a file of its own, whatever its name.
func TestNames(t *testing.T) {
	d := disk.New()
	names := []string{"a", "b", "\x00", "a~", strings.Repeat("n", 1000), "\xff"}
	for _, name := range names {
		l, _, e := wal.Open(d, name)
		want(t, "Open", e, api.OK)
		want(t, "Append", l.Append([]byte("of "+name)), api.OK)
	}
	for _, name := range names {
		wantFile(t, "a name", d, name, framed("of "+name))
	}
}

// P7.2: a record's frame stands in the file, and is sure: two writes.
func TestAppend(t *testing.T) {
	d := disk.New()
	l := wantOpen(t, "at first", d)
	var records []string
	for _, p := range []string{"a", "\x00", "abc", "abc", framed("abc"), strings.Repeat("\xff", 300), strings.Repeat("z", api.MaxFrame-1), strings.Repeat("z", api.MaxFrame)} {
		d.Arm(2)
		want(t, "Append", l.Append([]byte(p)), api.OK)
		records = append(records, p)
		if d.Lost() {
			t.Fatal("Append has done three writes")
		}
		want(t, "the third write", d.Append("x", nil), api.ErrLost)
		d.Crash(nil)
		wantFile(t, "Append", d, "w", framed(records...))
		wantLog(t, "Append", l, len(framed(records...)))
	}
	wantOpen(t, "all", d, records...)
}

// P7.2: what is no record is refused, without a write, and the log goes on.
func TestAppendOfNoRecord(t *testing.T) {
	d := on(framed("abc"), "")
	l := wantOpen(t, "at first", d, "abc")
	d.Arm(0)
	for _, p := range [][]byte{nil, {}, make([]byte, api.MaxFrame+1), make([]byte, api.MaxFrame+2), make([]byte, 1<<22)} {
		want(t, "Append of no record", l.Append(p), api.ErrArg)
		wantLog(t, "Append of no record", l, len(framed("abc")))
	}
	if d.Lost() {
		t.Error("Append of no record has written")
	}
	d.Arm(2)
	want(t, "Append", l.Append([]byte("de")), api.OK)
	wantFile(t, "Append", d, "w", framed("abc", "de"))
}

// P7.2: at either write the disk may go away; then the log is dead, even if the disk comes back.
func TestAppendIsLost(t *testing.T) {
	for n := range 2 {
		for left := range len(framed("defgh")) + 1 {
			d := on(framed("abc"), "")
			l := wantOpen(t, "at first", d, "abc")
			d.Arm(n)
			want(t, "Append", l.Append([]byte("defgh")), api.ErrLost)
			if d.Sure("w") != len(framed("abc")) {
				t.Errorf("sure are %d bytes", d.Sure("w"))
			}
			wantDead(t, "lost", l)
			d.Crash([]uint16{uint16(left)})
			wantDead(t, "behind a crash", l)
			records := []string{"abc", "defgh"}
			if left < len(framed("defgh")) {
				records = records[:1]
			}
			wantOpen(t, "behind a crash", d, records...)
			wantFile(t, "behind a crash", d, "w", framed(records...))
		}
	}
}

// P7.2: a disk that was lost ahead is told of at the next Append, and then the log is dead.
func TestDeadIsToldLate(t *testing.T) {
	d := on(framed("abc"), "")
	l := wantOpen(t, "at first", d, "abc")
	d.Arm(0)
	d.Sync("x")
	wantLog(t, "a lost disk", l, len(framed("abc")))
	want(t, "Append of no record", l.Append(nil), api.ErrArg)
	d.Crash(nil)
	want(t, "Append", l.Append([]byte("de")), api.OK)
	wantLog(t, "a disk that came back", l, len(framed("abc", "de")))
	d.Arm(0)
	d.Sync("x")
	want(t, "Append", l.Append([]byte("f")), api.ErrLost)
	wantDead(t, "a lost disk", l)
}

// P7.2: Clear cuts the file to nothing: one write, after which the log goes on from 0.
func TestClear(t *testing.T) {
	d := on(framed("abc"), "")
	l := wantOpen(t, "at first", d, "abc")
	want(t, "Append", l.Append([]byte("de")), api.OK)
	for range 2 {
		d.Arm(1)
		want(t, "Clear", l.Clear(), api.OK)
		wantLog(t, "Clear", l, 0)
		if d.Lost() {
			t.Error("Clear has done two writes")
		}
		wantFile(t, "Clear", d, "w", "")
	}
	want(t, "a write", d.Append("x", nil), api.ErrLost)
	d.Crash(nil)
	wantLog(t, "behind a crash", l, 0)
	want(t, "Append", l.Append([]byte("fgh")), api.OK)
	wantLog(t, "Append", l, len(framed("fgh")))
	wantFile(t, "Append", d, "w", framed("fgh"))
	wantOpen(t, "once more", d, "fgh")
}

// P7.2: where there is no file, Clear writes nothing, and makes none; a file that somebody took away is none, too.
func TestClearOfNoFile(t *testing.T) {
	d := disk.New()
	l := wantOpen(t, "at first", d)
	d.Arm(0)
	want(t, "Clear", l.Clear(), api.OK)
	if d.Lost() || len(d.Names()) != 0 {
		t.Errorf("Clear has written: %q", d.Names())
	}
	wantLog(t, "Clear", l, 0)

	d = on(framed("abc"), "")
	l = wantOpen(t, "at first", d, "abc")
	d.Remove("w")
	want(t, "Clear", l.Clear(), api.OK)
	wantLog(t, "Clear", l, 0)
}

// P7.2: the disk may go away at Clear; then the log is dead, and all records stay.
func TestClearIsLost(t *testing.T) {
	d := on(framed("abc", "de"), "")
	l := wantOpen(t, "at first", d, "abc", "de")
	d.Arm(0)
	want(t, "Clear", l.Clear(), api.ErrLost)
	wantDead(t, "lost", l)
	d.Crash(nil)
	wantDead(t, "behind a crash", l)
	wantOpen(t, "behind a crash", d, "abc", "de")
}

// P7.2: how many bytes the frames have is counted, not asked for.
func TestSizeIsOfItsOwnFrames(t *testing.T) {
	d := on(framed("abc"), "d")
	l := wantOpen(t, "at first", d, "abc")
	d.Append("w", []byte("others' bytes"))
	wantLog(t, "others' bytes", l, len(framed("abc")))
	want(t, "Append", l.Append([]byte("de")), api.OK)
	wantLog(t, "Append", l, len(framed("abc", "de")))
}

// P7.1, P7.2: of a nil log: ErrNil, 0, true.
func TestNilLog(t *testing.T) {
	var l *wal.Log
	for _, p := range [][]byte{nil, {}, []byte("abc"), make([]byte, api.MaxFrame+1)} {
		want(t, "Append", l.Append(p), api.ErrNil)
	}
	want(t, "Clear", l.Clear(), api.ErrNil)
	if l.Size() != 0 || !l.Dead() {
		t.Errorf("Size = %d, Dead = %v", l.Size(), l.Dead())
	}
}

// P1: a log that was made by hand has no disk; its calls are refused as that one's are.
func TestLogMadeByHand(t *testing.T) {
	for what, call := range map[string]func(l *wal.Log) api.Errno{
		"Append": func(l *wal.Log) api.Errno { return l.Append([]byte("abc")) },
		"Clear":  func(l *wal.Log) api.Errno { return l.Clear() },
	} {
		l := &wal.Log{}
		want(t, what, call(l), api.ErrNil)
		wantDead(t, what, l)
	}
}

// P1: what is handed in is neither changed nor kept; what is told is new.
func TestListsAreAlone(t *testing.T) {
	d := disk.New()
	l := wantOpen(t, "at first", d)
	in := []byte("abcdef")
	want(t, "Append", l.Append(in[:3]), api.OK)
	if string(in) != "abcdef" {
		t.Errorf("what was handed in is %q", in)
	}
	copy(in, "!!!!!!")
	want(t, "Append", l.Append([]byte("de")), api.OK)
	wantFile(t, "written into what was handed in", d, "w", framed("abc", "de"))

	_, first, _ := wal.Open(d, "w")
	_, second, _ := wal.Open(d, "w")
	for i := range first[0][:cap(first[0])] {
		first[0][:cap(first[0])][i] = '!'
	}
	if string(first[1]) != "de" || !slices.Equal(texts(second), []string{"abc", "de"}) {
		t.Errorf("written into what was told: %q, %q", first, second)
	}
	wantFile(t, "written into what was told", d, "w", framed("abc", "de"))
}

// P7.3: whatever is done, and whatever crashes leave, Open tells all that was sure, and at most the one more at which the disk was lost.
func TestSure(t *testing.T) {
	r := rand.New(rand.NewSource(14))
	for range 400 {
		d := disk.New()
		l := wantOpen(t, "at first", d)
		var had []string
		for range 12 {
			d.Arm(r.Intn(9))
			sure, maybe := write(t, l, r, had)
			l, had = reopen(t, d, r, sure, maybe)
		}
	}
}

// write appends and clears till the log is dead, and tells what it has for sure, and, if an Append had an error, what it has with that record.
func write(t *testing.T, l *wal.Log, r *rand.Rand, had []string) (sure, maybe []string) {
	t.Helper()
	sure = had
	for range 100 {
		if l.Dead() {
			return sure, maybe
		}
		if r.Intn(6) == 0 {
			if l.Clear() == api.OK {
				sure = nil
			}
			continue
		}
		p := make([]byte, 1+r.Intn(20))
		r.Read(p)
		more := append(slices.Clone(sure), string(p))
		if l.Append(p) != api.OK {
			maybe = more
			continue
		}
		sure = more
		wantLog(t, "Append", l, len(framed(sure...)))
	}
	t.Fatal("the log does not die")
	return nil, nil
}

// reopen crashes the disk, also while the log is opened, and tells the log and what it has: either sure or, where that is some, maybe.
func reopen(t *testing.T, d *disk.Disk, r *rand.Rand, sure, maybe []string) (*wal.Log, []string) {
	t.Helper()
	for range 100 {
		d.Crash([]uint16{uint16(r.Intn(1 << 16))})
		d.Arm(r.Intn(3))
		l, got, e := wal.Open(d, "w")
		if e == api.ErrLost && l == nil && len(got) == 0 {
			continue
		}
		had := texts(got)
		if e != api.OK || !slices.Equal(had, sure) && !(maybe != nil && slices.Equal(had, maybe)) {
			t.Fatalf("Open = %q, %d; want %q or %q", had, e, sure, maybe)
		}
		wantLog(t, "behind a crash", l, len(framed(had...)))
		wantFile(t, "behind a crash", d, "w", framed(had...))
		return l, had
	}
	t.Fatal("the log is not opened")
	return nil, nil
}

// P1, P7.1, P7.3: whatever stands in the file, Open tells what stays, and what is appended stands behind it.
func FuzzOpen(f *testing.F) {
	for _, behind := range wrong() {
		f.Add([]byte(framed("abc")), []byte(behind), []byte("de"))
	}
	f.Add([]byte{}, []byte{}, []byte{})
	f.Fuzz(func(t *testing.T, sure, loose, p []byte) {
		d := on(string(sure), string(loose))
		l, records, e := wal.Open(d, "w")
		frames := framed(texts(records)...)
		if e != api.OK || l.Size() != len(frames) || !strings.HasPrefix(string(sure)+string(loose), frames) {
			t.Fatalf("Open of %q, %q = %q, %d", sure, loose, records, e)
		}
		wantFile(t, "Open", d, "w", frames)
		if e := l.Append(p); (e == api.OK) != (len(p) > 0 && len(p) <= api.MaxFrame) {
			t.Errorf("Append(%q) = %d", p, e)
		} else if e == api.OK {
			records = append(records, bytes.Clone(p))
		}
		d.Crash(nil)
		wantOpen(t, "behind a crash", d, texts(records)...)
	})
}
