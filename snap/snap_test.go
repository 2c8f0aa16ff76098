package snap_test

import (
	"bytes"
	"encoding/binary"
	"hash/crc32"
	"math/rand"
	"slices"
	"strings"
	"testing"

	"virgate/api"
	"virgate/disk"
	"virgate/snap"
)

// sealed tells bytes, and their sum behind them, by another writer of sums.
func sealed(b string) string {
	return string(binary.LittleEndian.AppendUint32([]byte(b), crc32.Checksum([]byte(b), crc32.MakeTable(crc32.Castagnoli))))
}

// want holds an error against another one.
func want(t *testing.T, what string, got, e api.Errno) {
	t.Helper()
	if got != e {
		t.Errorf("%s = %d; want %d", what, got, e)
	}
}

// wantLoad holds what Load tells.
func wantLoad(t *testing.T, what string, d *disk.Disk, name, b string, want api.Errno) {
	t.Helper()
	if got, e := snap.Load(d, name); string(got) != b || e != want {
		t.Errorf("%s: Load(%.20q) = %.60q, %d; want %.60q, %d", what, name, got, e, b, want)
	}
}

// wantFiles holds what is on a disk that is not lost: of each file its name, its sure bytes, a bar, the others.
func wantFiles(t *testing.T, what string, d *disk.Disk, files ...string) {
	t.Helper()
	got := []string{}
	for _, name := range d.Names() {
		b, e := d.Read(name)
		if e != api.OK {
			t.Fatalf("%s: Read(%q) = %d", what, name, e)
		}
		sure := d.Sure(name)
		got = append(got, name+" "+string(b[:sure])+"|"+string(b[sure:]))
	}
	if !slices.Equal(got, files) {
		t.Errorf("%s: on the disk are %.200q; want %.200q", what, got, files)
	}
}

// P8.1, P8.2: the example.
func TestExample(t *testing.T) {
	d := disk.New()
	want(t, "Save", snap.Save(d, "s", []byte("abc")), api.OK)
	d.Arm(1)
	want(t, "Save", snap.Save(d, "s", []byte("de")), api.ErrLost)
	d.Crash(nil)
	wantLoad(t, "behind a crash", d, "s", "abc", api.OK)
}

// P8.1: ~ stands behind the name.
func TestSpare(t *testing.T) {
	for _, name := range []string{"", "s", "~", "s~", "\x00", "\xff", "a/b", strings.Repeat("n", 1000)} {
		if got := snap.Spare(name); got != name+"~" {
			t.Errorf("Spare(%q) = %q", name, got)
		}
	}
}

// P8.1, P8.2: what is saved is loaded, over what was there, and nothing else is left.
func TestSave(t *testing.T) {
	d := disk.New()
	d.Append("other", []byte("xyz"))
	for _, b := range []string{"abc", "", "a", "\x00\x00\x00\x00", sealed("abc"), sealed(""), strings.Repeat("\xff", 300), strings.Repeat("z", 1<<21), "de"} {
		for range 2 {
			want(t, "Save", snap.Save(d, "s", []byte(b)), api.OK)
			wantFiles(t, "Save", d, "other |xyz", "s "+sealed(b)+"|")
			wantLoad(t, "Save", d, "s", b, api.OK)
		}
	}
	want(t, "Save of nil", snap.Save(d, "s", nil), api.OK)
	wantFiles(t, "Save of nil", d, "other |xyz", "s "+sealed("")+"|")
	wantLoad(t, "Save of nil", d, "s", "", api.OK)
}

// P8.1: a file of any name may be saved; its spare one, too.
func TestNames(t *testing.T) {
	d := disk.New()
	names := []string{"s", "t", "~", "\x00", "\xff", strings.Repeat("n", 1000)}
	for _, name := range names {
		want(t, "Save", snap.Save(d, name, []byte("of "+name)), api.OK)
	}
	for _, name := range names {
		wantLoad(t, "a name", d, name, "of "+name, api.OK)
	}
	want(t, "Save of a spare", snap.Save(d, "s~", []byte("spare")), api.OK)
	wantLoad(t, "a spare", d, "s~", "spare", api.OK)
	wantLoad(t, "a spare", d, "s", "of s", api.OK)
	// What stands in its spare's place is in the way.
	want(t, "Save", snap.Save(d, "s", []byte("new")), api.OK)
	wantLoad(t, "a spare", d, "s~", "", api.ErrNone)
}

// saves are disks, by what is saved there ahead, and what each write of Save of de leaves.
var saves = map[string]struct {
	start func() *disk.Disk
	after [][]string // the files, by how many writes were done when the disk was lost; the last ones are of a Save that was done
}{
	"nothing": {disk.New, [][]string{
		{"s~ |" + sealed("de")},
		{"s~ |" + sealed("de")},
		{"s~ " + sealed("de") + "|"},
		{"s " + sealed("de") + "|"},
	}},
	"abc": {func() *disk.Disk { return saved("abc") }, [][]string{
		{"s " + sealed("abc") + "|", "s~ |" + sealed("de")},
		{"s " + sealed("abc") + "|", "s~ |" + sealed("de")},
		{"s " + sealed("abc") + "|", "s~ " + sealed("de") + "|"},
		{"s " + sealed("de") + "|"},
	}},
	"abc and a spare": {func() *disk.Disk { return spared("abc") }, [][]string{
		{"s " + sealed("abc") + "|", "s~ left|over"},
		{"s " + sealed("abc") + "|", "s~ |" + sealed("de")},
		{"s " + sealed("abc") + "|", "s~ |" + sealed("de")},
		{"s " + sealed("abc") + "|", "s~ " + sealed("de") + "|"},
		{"s " + sealed("de") + "|"},
	}},
}

// saved tells a disk with a file s.
func saved(b string) *disk.Disk {
	d := disk.New()
	snap.Save(d, "s", []byte(b))
	return d
}

// spared tells one on which a spare is left over, of which a part is sure.
func spared(b string) *disk.Disk {
	d := saved(b)
	d.Append("s~", []byte("left"))
	d.Sync("s~")
	d.Append("s~", []byte("over"))
	return d
}

// crashed tells how the files look behind a crash that leaves, of those bytes of each that were not sure, the first part (all, if they are fewer).
func crashed(files []string, part int) []string {
	l := []string{}
	for _, f := range files {
		at := strings.LastIndex(f, "|")
		loose := f[at+1:]
		l = append(l, f[:at]+loose[:min(part, len(loose))]+"|")
	}
	return l
}

// keeping tells what a crash must be told, so that it leaves that.
func keeping(files []string, part int) []uint16 {
	keep := []uint16{}
	for _, f := range files {
		loose := len(f) - 1 - strings.LastIndex(f, "|")
		keep = append(keep, uint16(min(part, loose)))
	}
	return keep
}

// P8.1: the steps stand in their order, each one's error is told, and nothing is done behind it.
func TestSteps(t *testing.T) {
	for what, c := range saves {
		for n, files := range c.after {
			for part := range len(sealed("de")) + 1 {
				d := c.start()
				d.Arm(n)
				e, done := snap.Save(d, "s", []byte("de")), n == len(c.after)-1
				if done != (e == api.OK) || done == d.Lost() || e != api.OK && e != api.ErrLost {
					t.Errorf("%s: armed with %d: Save = %d, Lost = %v", what, n, e, d.Lost())
				}
				d.Crash(keeping(files, part))
				wantFiles(t, what, d, crashed(files, part)...)
			}
		}
	}
}

// P8.1: of a name that is empty nothing is asked of the disk.
func TestSaveOfNoName(t *testing.T) {
	want(t, "of a nil disk", snap.Save(nil, "", []byte("abc")), api.ErrArg)
	d := disk.New()
	d.Append("~", []byte("left over"))
	for range 2 {
		want(t, "Save of no name", snap.Save(d, "", []byte("abc")), api.ErrArg)
		want(t, "Save of no name", snap.Save(d, "", nil), api.ErrArg)
		d.Arm(0)
	}
	if d.Lost() {
		t.Error("Save of no name has written")
	}
	wantFiles(t, "Save of no name", d, "~ |left over")
	d.Sync("~")
	want(t, "of a lost disk", snap.Save(d, "", nil), api.ErrArg)
}

// P8.1, P8.2: the disk's errors.
func TestDiskErrors(t *testing.T) {
	want(t, "Save on a nil disk", snap.Save(nil, "s", []byte("abc")), api.ErrNil)
	wantLoad(t, "a nil disk", nil, "s", "", api.ErrNil)
	wantLoad(t, "a nil disk", nil, "", "", api.ErrNil)
	for what, start := range map[string]func() *disk.Disk{"saved": func() *disk.Disk { return saved("abc") }, "spared": func() *disk.Disk { return spared("abc") }} {
		d := start()
		d.Arm(0)
		d.Sync("s")
		names := d.Names()
		want(t, what, snap.Save(d, "s", []byte("de")), api.ErrLost)
		wantLoad(t, what, d, "s", "", api.ErrLost)
		wantLoad(t, what, d, "t", "", api.ErrNone)
		if !slices.Equal(d.Names(), names) {
			t.Errorf("%s: on a lost disk are %q; want %q", what, d.Names(), names)
		}
		d.Crash(nil)
		wantLoad(t, what, d, "s", "abc", api.OK)
	}
}

// P8.2: of a file that is not there ErrNone; loading is no write.
func TestLoadOfNone(t *testing.T) {
	d := disk.New()
	d.Arm(0)
	wantLoad(t, "an empty disk", d, "s", "", api.ErrNone)
	wantLoad(t, "an empty disk", d, "", "", api.ErrNone)
	d = spared("abc")
	d.Arm(0)
	for _, name := range []string{"", "S", "ss", "t", "s~~"} {
		wantLoad(t, "some files", d, name, "", api.ErrNone)
	}
	wantLoad(t, "a file", d, "s", "abc", api.OK)
	wantLoad(t, "a file that is no saved one", d, "s~", "", api.ErrSum)
	if d.Lost() {
		t.Error("Load has written")
	}
}

// P8.2: of a file that is not whole ErrSum, and no bytes; whether they are sure is not asked.
func TestLoadOfWhatIsNotWhole(t *testing.T) {
	load := func(what, file, b string, e api.Errno) {
		t.Helper()
		d := disk.New()
		d.Append("s", []byte(file))
		wantLoad(t, what, d, "s", b, e)
		d.Sync("s")
		wantLoad(t, what, d, "s", b, e)
	}
	load("whole", sealed("abc"), "abc", api.OK)
	load("no bytes, whole", sealed(""), "", api.OK)
	load("sealed twice", sealed(sealed("abc")), sealed("abc"), api.OK)
	load("no bytes", "", "", api.ErrSum)
	load("fewer than four", "\x00\x00\x00", "", api.ErrSum)
	load("one more", sealed("abc")+"!", "", api.ErrSum)
	load("a sum alone", "\x01\x02\x03\x04", "", api.ErrSum)
	for _, b := range []string{"", "a", "abc", "\x00\x00"} {
		whole := sealed(b)
		for n := range len(whole) {
			load("torn", whole[:n], "", api.ErrSum)
		}
		for i := range 8 * len(whole) {
			turned := []byte(whole)
			turned[i/8] ^= 1 << (i % 8)
			load("a turned bit", string(turned), "", api.ErrSum)
		}
	}
	highest := []byte(sealed("abc"))
	slices.Reverse(highest[3:])
	load("a sum whose highest byte is first", string(highest), "", api.ErrSum)
}

// P1: what is handed in is neither changed nor kept; what is told is new.
func TestListsAreAlone(t *testing.T) {
	d := disk.New()
	in := []byte("abcdefghij")
	want(t, "Save", snap.Save(d, "s", in[:3]), api.OK)
	if string(in) != "abcdefghij" {
		t.Errorf("what was handed in is %q", in)
	}
	copy(in, "!!!!!!!!!!")
	wantLoad(t, "written into what was handed in", d, "s", "abc", api.OK)
	first, _ := snap.Load(d, "s")
	second, _ := snap.Load(d, "s")
	first = append(first, "more"...)
	for i := range first {
		first[i] = '!'
	}
	if string(second) != "abc" {
		t.Errorf("written into what was told: %q", second)
	}
	wantLoad(t, "written into what was told", d, "s", "abc", api.OK)
}

// P8.3: at whatever write the disk is lost, and whatever crashes leave, Load tells the last one that was saved, or the one at which it was lost.
func TestAtOnce(t *testing.T) {
	r := rand.New(rand.NewSource(15))
	for range 400 {
		d := disk.New()
		had, there := []byte(nil), false
		for range 12 {
			b := make([]byte, r.Intn(40))
			r.Read(b)
			d.Arm(r.Intn(6))
			e := snap.Save(d, "s", b)
			if e != api.OK && e != api.ErrLost {
				t.Fatalf("Save = %d", e)
			}
			d.Crash([]uint16{uint16(r.Intn(1 << 16)), uint16(r.Intn(1 << 16))})
			got, found := snap.Load(d, "s")
			switch {
			case found == api.OK && bytes.Equal(got, b):
				had, there = b, true
			case e == api.OK:
				t.Fatalf("behind Save of %q, without an error: Load = %q, %d", b, got, found)
			case there && (found != api.OK || !bytes.Equal(got, had)), !there && found != api.ErrNone:
				t.Fatalf("behind Save of %q over %q: Load = %q, %d", b, had, got, found)
			}
		}
	}
}

// P1, P8.2: whatever stands in the file, Load ends, and what it tells is just what is sealed there.
func FuzzLoad(f *testing.F) {
	f.Add("s", []byte(sealed("abc")))
	f.Add("", []byte("abc"))
	f.Add("s~", []byte{0, 0, 0, 0})
	f.Fuzz(func(t *testing.T, name string, file []byte) {
		d := disk.New()
		d.Append(name, file)
		b, e := snap.Load(d, name)
		whole := e == api.OK && sealed(string(b)) == string(file)
		if !whole && (len(b) != 0 || e != api.ErrSum && !(e == api.ErrNone && name == "")) {
			t.Errorf("Load of %q = %q, %d", file, b, e)
		}
		if e := snap.Save(d, name, file); (e == api.OK) != (name != "") {
			t.Errorf("Save(%q) = %d", name, e)
		}
		if name != "" {
			wantLoad(t, "Save", d, name, string(file), api.OK)
		}
	})
}
