package disk_test

import (
	"math"
	"math/rand"
	"slices"
	"strings"
	"testing"

	"virgate/api"
	"virgate/disk"
)

// want holds an error against another one.
func want(t *testing.T, what string, got, e api.Errno) {
	t.Helper()
	if got != e {
		t.Errorf("%s = %d; want %d", what, got, e)
	}
}

// wantFiles holds what is on a disk that is not lost: of each file its name, its sure bytes, a bar, the others.
func wantFiles(t *testing.T, what string, d *disk.Disk, files ...string) {
	t.Helper()
	got := []string{}
	for _, name := range d.Names() {
		b, e := d.Read(name)
		sure := d.Sure(name)
		if e != api.OK || sure < 0 || sure > len(b) {
			t.Fatalf("%s: Read(%q) = %q, %d, of which %d are sure", what, name, b, e, sure)
		}
		got = append(got, name+" "+string(b[:sure])+"|"+string(b[sure:]))
	}
	if !slices.Equal(got, files) {
		t.Errorf("%s: on the disk are %q; want %q", what, got, files)
	}
}

// wantNames holds the files' names.
func wantNames(t *testing.T, what string, d *disk.Disk, names ...string) {
	t.Helper()
	if got := d.Names(); !slices.Equal(got, names) {
		t.Errorf("%s: Names = %q; want %q", what, got, names)
	}
}

// some tells a disk with the files a (abc, and de, which is not sure) and b (xyz, not sure), and an empty one.
func some() *disk.Disk {
	d := disk.New()
	d.Append("a", []byte("abc"))
	d.Sync("a")
	d.Append("a", []byte("de"))
	d.Append("b", []byte("xyz"))
	d.Append("c", nil)
	return d
}

// all that is on it.
var ofSome = []string{"a abc|de", "b |xyz", "c |"}

// allStay leaves all bytes of up to four files: 27720 is a multiple of all numbers up to 12.
var allStay = []uint16{27719, 27719, 27719, 27719}

// sure tells the files as they are once all their bytes are sure.
func sure(files []string) []string {
	l := []string{}
	for _, f := range files {
		l = append(l, strings.ReplaceAll(f, "|", "")+"|")
	}
	return l
}

// calls are one of each kind of write that may be done on that disk, and what it leaves.
var calls = map[string]struct {
	do    func(d *disk.Disk) api.Errno
	after []string
}{
	"Append":       {func(d *disk.Disk) api.Errno { return d.Append("b", []byte("uv")) }, []string{"a abc|de", "b |xyzuv", "c |"}},
	"Append anew":  {func(d *disk.Disk) api.Errno { return d.Append("d", []byte("uv")) }, []string{"a abc|de", "b |xyz", "c |", "d |uv"}},
	"Sync":         {func(d *disk.Disk) api.Errno { return d.Sync("a") }, []string{"a abcde|", "b |xyz", "c |"}},
	"Rename":       {func(d *disk.Disk) api.Errno { return d.Rename("a", "d") }, []string{"b |xyz", "c |", "d abc|de"}},
	"Rename over":  {func(d *disk.Disk) api.Errno { return d.Rename("a", "b") }, []string{"b abc|de", "c |"}},
	"Remove":       {func(d *disk.Disk) api.Errno { return d.Remove("a") }, []string{"b |xyz", "c |"}},
	"Cut":          {func(d *disk.Disk) api.Errno { return d.Cut("a", 4) }, []string{"a abcd|", "b |xyz", "c |"}},
	"Cut sure":     {func(d *disk.Disk) api.Errno { return d.Cut("a", 2) }, []string{"a ab|", "b |xyz", "c |"}},
	"Cut of none":  {func(d *disk.Disk) api.Errno { return d.Cut("a", 5) }, []string{"a abcde|", "b |xyz", "c |"}},
	"Cut of all":   {func(d *disk.Disk) api.Errno { return d.Cut("b", 0) }, []string{"a abc|de", "b |", "c |"}},
	"Cut of empty": {func(d *disk.Disk) api.Errno { return d.Cut("c", 0) }, ofSome},
}

// wrong are calls that are refused on that disk, and are no writes.
var wrong = map[string]struct {
	do func(d *disk.Disk) api.Errno
	e  api.Errno
}{
	"Append of no name":       {func(d *disk.Disk) api.Errno { return d.Append("", []byte("x")) }, api.ErrArg},
	"Append nothing":          {func(d *disk.Disk) api.Errno { return d.Append("", nil) }, api.ErrArg},
	"Sync of none":            {func(d *disk.Disk) api.Errno { return d.Sync("d") }, api.ErrNone},
	"Sync of no name":         {func(d *disk.Disk) api.Errno { return d.Sync("") }, api.ErrNone},
	"Rename of none":          {func(d *disk.Disk) api.Errno { return d.Rename("d", "a") }, api.ErrNone},
	"Rename of none to empty": {func(d *disk.Disk) api.Errno { return d.Rename("d", "") }, api.ErrNone},
	"Rename of none to it":    {func(d *disk.Disk) api.Errno { return d.Rename("d", "d") }, api.ErrNone},
	"Rename of no name":       {func(d *disk.Disk) api.Errno { return d.Rename("", "") }, api.ErrNone},
	"Rename to empty":         {func(d *disk.Disk) api.Errno { return d.Rename("a", "") }, api.ErrArg},
	"Rename to it":            {func(d *disk.Disk) api.Errno { return d.Rename("a", "a") }, api.ErrArg},
	"Remove of none":          {func(d *disk.Disk) api.Errno { return d.Remove("d") }, api.ErrNone},
	"Remove of no name":       {func(d *disk.Disk) api.Errno { return d.Remove("") }, api.ErrNone},
	"Cut of none there":       {func(d *disk.Disk) api.Errno { return d.Cut("d", 0) }, api.ErrNone},
	"Cut of no name":          {func(d *disk.Disk) api.Errno { return d.Cut("", -1) }, api.ErrNone},
	"Cut below 0":             {func(d *disk.Disk) api.Errno { return d.Cut("a", -1) }, api.ErrArg},
	"Cut far below 0":         {func(d *disk.Disk) api.Errno { return d.Cut("a", math.MinInt) }, api.ErrArg},
	"Cut beyond":              {func(d *disk.Disk) api.Errno { return d.Cut("a", 6) }, api.ErrArg},
	"Cut beyond by room":      {func(d *disk.Disk) api.Errno { return d.Cut("a", 8) }, api.ErrArg},
	"Cut far beyond":          {func(d *disk.Disk) api.Errno { return d.Cut("a", math.MaxInt) }, api.ErrArg},
	"Cut of empty beyond":     {func(d *disk.Disk) api.Errno { return d.Cut("c", 1) }, api.ErrArg},
}

// P6.3: the example.
func TestExample(t *testing.T) {
	d := disk.New()
	wantFiles(t, "a new one", d)
	want(t, "Append", d.Append("f", []byte("abc")), api.OK)
	want(t, "Sync", d.Sync("f"), api.OK)
	want(t, "Append", d.Append("f", []byte("de")), api.OK)
	wantFiles(t, "ahead", d, "f abc|de")
	d.Crash([]uint16{1})
	wantFiles(t, "behind a crash", d, "f abcd|")
}

// P6.1: each write does what it says, armed with enough or not, and nothing else.
func TestWrites(t *testing.T) {
	for what, c := range calls {
		d := some()
		want(t, what, c.do(d), api.OK)
		wantFiles(t, what, d, c.after...)

		d = some()
		d.Arm(1)
		want(t, what, c.do(d), api.OK)
		wantFiles(t, what, d, c.after...)
		if d.Lost() {
			t.Errorf("%s: it is lost at a write that is done", what)
		}
		want(t, "the write behind "+what, d.Append("c", []byte("!")), api.ErrLost)
	}
}

// P6.1: at each write the disk may go away: nothing is done, but an Append's bytes stand there.
func TestLostAtAWrite(t *testing.T) {
	for what, c := range calls {
		d := some()
		d.Arm(0)
		if d.Lost() {
			t.Errorf("%s: it is lost ahead of any write", what)
		}
		want(t, what, c.do(d), api.ErrLost)
		if !d.Lost() {
			t.Errorf("%s: it is not lost", what)
		}
		if a, b, d := d.Sure("a"), d.Sure("b"), d.Sure("d"); a != 3 || b != 0 || d != 0 {
			t.Errorf("%s: sure are %d, %d, %d bytes", what, a, b, d)
		}
		d.Crash(allStay)
		after := ofSome
		if strings.HasPrefix(what, "Append") {
			after = c.after
		}
		wantFiles(t, what, d, sure(after)...)
	}
}

// P6.1: once it is lost, no write does anything, nor an Append's bytes come.
func TestLostAhead(t *testing.T) {
	for what, c := range calls {
		d := some()
		d.Arm(0)
		want(t, "Sync", d.Sync("b"), api.ErrLost)
		want(t, what, c.do(d), api.ErrLost)
		d.Arm(5)
		want(t, what+", armed anew", c.do(d), api.ErrLost)
		if !d.Lost() {
			t.Errorf("%s: it is not lost any more", what)
		}
		wantNames(t, what, d, "a", "b", "c")
		d.Crash(allStay)
		wantFiles(t, what, d, sure(ofSome)...)
	}
}

// P6.1: what may not be asked is told ahead of all, changes nothing, and is no write.
func TestWrong(t *testing.T) {
	for what, c := range wrong {
		d := some()
		want(t, what, c.do(d), c.e)
		wantFiles(t, what, d, ofSome...)

		d.Arm(1)
		want(t, what+", armed with 1", c.do(d), c.e)
		want(t, "the write behind "+what, d.Append("b", []byte("!")), api.OK)
		want(t, what+", armed with 0", c.do(d), c.e)
		if d.Lost() {
			t.Errorf("%s: it is lost at what is no write", what)
		}
		want(t, "the write behind "+what, d.Sync("a"), api.ErrLost)
		want(t, what+", lost", c.do(d), c.e)
		wantNames(t, what, d, "a", "b", "c")
		d.Crash(nil)
		wantFiles(t, what, d, "a abc|", "b |", "c |")
	}
}

// P6.1: an Append at which it is lost leaves a file, even of no bytes; the next one doesn't.
func TestAppendAtWhichItIsLost(t *testing.T) {
	d := disk.New()
	d.Arm(0)
	want(t, "Append", d.Append("a", nil), api.ErrLost)
	want(t, "Append", d.Append("b", []byte("b")), api.ErrLost)
	want(t, "Append", d.Append("a", []byte("more")), api.ErrLost)
	wantNames(t, "lost", d, "a")
	d.Crash([]uint16{4})
	wantFiles(t, "behind a crash", d, "a |")
}

// P6.1: writes behind one another; a file that was renamed, removed or cut may be written anew.
func TestFilesAreWrittenAnew(t *testing.T) {
	d := some()
	want(t, "Rename", d.Rename("a", "b"), api.OK)
	want(t, "Append", d.Append("a", []byte("new")), api.OK)
	want(t, "Append", d.Append("b", []byte("f")), api.OK)
	wantFiles(t, "renamed", d, "a |new", "b abc|def", "c |")
	want(t, "Remove", d.Remove("b"), api.OK)
	want(t, "Append", d.Append("b", []byte("g")), api.OK)
	wantFiles(t, "removed", d, "a |new", "b |g", "c |")
	want(t, "Cut", d.Cut("a", 1), api.OK)
	want(t, "Append", d.Append("a", []byte("o")), api.OK)
	wantFiles(t, "cut", d, "a n|o", "b |g", "c |")
	want(t, "Sync", d.Sync("a"), api.OK)
	want(t, "Append", d.Append("a", nil), api.OK)
	wantFiles(t, "synced", d, "a no|", "b |g", "c |")
}

// P6.2: Read asks for the file first, and then whether the disk is lost.
func TestRead(t *testing.T) {
	d := some()
	for name, b := range map[string]string{"a": "abcde", "b": "xyz", "c": ""} {
		if got, e := d.Read(name); string(got) != b || e != api.OK {
			t.Errorf("Read(%q) = %q, %d; want %q", name, got, e, b)
		}
	}
	d.Arm(0)
	if b, e := d.Read("a"); string(b) != "abcde" || e != api.OK {
		t.Errorf("Read of one that is armed = %q, %d", b, e)
	}
	for range 2 {
		for _, name := range []string{"", "d", "A", "a~", "ab", "\x00"} {
			if b, e := d.Read(name); len(b) != 0 || e != api.ErrNone {
				t.Errorf("Read(%q) = %q, %d; want ErrNone", name, b, e)
			}
			if n := d.Sure(name); n != 0 {
				t.Errorf("Sure(%q) = %d", name, n)
			}
		}
		d.Sync("a")
	}
	for _, name := range []string{"a", "b", "c"} {
		if b, e := d.Read(name); len(b) != 0 || e != api.ErrLost {
			t.Errorf("Read(%q) of a lost one = %q, %d; want ErrLost", name, b, e)
		}
	}
}

// P6.2: names are of bytes of any kind, and rise by these.
func TestNames(t *testing.T) {
	d := disk.New()
	rising := []string{"\x00", "\x00\x00", " ", "B", "a", "a\x00", "a/b", "ab", "b", "b~", "z", strings.Repeat("z", 1000), "é", "\xff"}
	for i := range rising {
		name := rising[(i*5+3)%len(rising)]
		want(t, "Append", d.Append(name, []byte(name)), api.OK)
	}
	wantNames(t, "all", d, rising...)
	for _, name := range rising {
		if b, e := d.Read(name); string(b) != name || e != api.OK {
			t.Errorf("Read(%q) = %q, %d", name, b, e)
		}
	}
	d.Arm(-1)
	d.Remove("a")
	wantNames(t, "a lost one", d, rising...)
}

// P6.2: armed with n, n writes are done.
func TestArm(t *testing.T) {
	for n, done := range map[int]int{0: 0, 1: 1, 2: 2, 7: 7, -1: 0, -2: 0, math.MinInt: 0} {
		d := some()
		d.Arm(3)
		d.Arm(n)
		for i := range done {
			want(t, "Append", d.Append("a", []byte("!")), api.OK)
			if d.Lost() {
				t.Errorf("armed with %d it is lost behind %d writes", n, i+1)
			}
		}
		want(t, "Sync", d.Sync("a"), api.ErrLost)
		if !d.Lost() {
			t.Errorf("armed with %d it is not lost", n)
		}
	}
	d := some()
	for _, n := range []int{math.MaxInt, 1 << 32, 1<<32 - 1} {
		d.Arm(n)
		for range 100 {
			want(t, "Append", d.Append("a", []byte("!")), api.OK)
		}
	}
	// Reading is no write.
	d.Arm(1)
	for range 3 {
		d.Names()
		d.Read("a")
		d.Sure("a")
		d.Lost()
	}
	want(t, "Sync", d.Sync("a"), api.OK)
}

// P6.3: of what is not sure the first so many stay, by the rest of keep's number.
func TestCrash(t *testing.T) {
	for keep, a := range map[uint16]string{0: "a abc|", 1: "a abcd|", 2: "a abcde|", 3: "a abc|", 4: "a abcd|", 65534: "a abcde|", 65535: "a abc|"} {
		d := some()
		d.Crash([]uint16{keep})
		wantFiles(t, "a crash", d, a, "b |", "c |")
	}
	for keep, b := range map[uint16]string{0: "b |", 1: "b x|", 2: "b xy|", 3: "b xyz|", 4: "b |", 65535: "b xyz|"} {
		d := some()
		d.Crash([]uint16{7, keep, 9, 1, 1})
		wantFiles(t, "a crash", d, "a abcd|", b, "c |")
	}
	for _, keep := range [][]uint16{nil, {}, {0, 0, 0}, {3, 4, 65535}} {
		d := some()
		d.Crash(keep)
		wantFiles(t, "a crash", d, "a abc|", "b |", "c |")
		d.Crash([]uint16{1, 1, 1})
		wantFiles(t, "a crash, and another one", d, "a abc|", "b |", "c |")
	}
	d := disk.New()
	d.Crash([]uint16{1, 2})
	wantFiles(t, "a crash of no file", d)
}

// P6.3: files that were sure count, too; what was cut or renamed is counted as it is now.
func TestCrashCountsFilesByName(t *testing.T) {
	d := some()
	d.Sync("b")
	d.Append("c", []byte("12345"))
	d.Rename("a", "d")
	d.Crash([]uint16{1, 3, 1})
	wantFiles(t, "a crash", d, "b xyz|", "c 123|", "d abcd|")
}

// P6.3: of more bytes than keep's numbers reach, their own numbers count.
func TestCrashOfManyBytes(t *testing.T) {
	d := disk.New()
	long := make([]byte, 1<<17)
	d.Append("a", long)
	d.Append("b", long[:65535])
	d.Append("c", long[:65534])
	d.Crash([]uint16{65535, 65535, 65535})
	if d.Sure("a") != 65535 || d.Sure("b") != 65535 || d.Sure("c") != 0 {
		t.Errorf("a crash leaves %d, %d, %d bytes", d.Sure("a"), d.Sure("b"), d.Sure("c"))
	}
}

// P6.3: behind a crash it is neither lost nor armed.
func TestBehindACrash(t *testing.T) {
	for _, n := range []int{0, 1, 9} {
		d := some()
		d.Arm(n)
		d.Append("a", []byte("f"))
		d.Crash([]uint16{3})
		if d.Lost() {
			t.Error("it is lost behind a crash")
		}
		for range 10 {
			want(t, "Append", d.Append("a", []byte("g")), api.OK)
		}
		wantFiles(t, "behind a crash", d, "a abcdef|gggggggggg", "b |", "c |")
		d.Arm(0)
		want(t, "Remove", d.Remove("a"), api.ErrLost)
	}
}

// P6.1, P6.2: what is handed in is neither changed nor kept; what is told is new.
func TestListsAreAlone(t *testing.T) {
	d := disk.New()
	in := []byte("abcdefghij")
	d.Append("a", in[:3])
	d.Append("b", in[:3])
	copy(in, "0123456789")
	d.Append("a", in[3:5])
	copy(in, "!!!!!!!!!!")
	wantFiles(t, "written into what was handed in", d, "a |abc34", "b |abc")
	if string(in) != "!!!!!!!!!!" {
		t.Errorf("what was handed in is %q", in)
	}
	first, _ := d.Read("a")
	second, _ := d.Read("a")
	fill(first)
	d.Append("a", []byte("x"))
	wantFiles(t, "written into what was told", d, "a |abc34x", "b |abc")
	d.Cut("a", 2)
	d.Append("a", []byte("yz"))
	d.Crash([]uint16{1})
	d.Append("a", []byte("w"))
	if string(second) != "abc34" {
		t.Errorf("what was told is now %q", second)
	}
	names := d.Names()
	names[0] = "!"
	wantNames(t, "written into the names", d, "a", "b")
	keep := []uint16{1, 2}
	d.Crash(keep)
	if !slices.Equal(keep, []uint16{1, 2}) {
		t.Errorf("keep is now %d", keep)
	}
}

// fill writes into all of b, and into the room behind it.
func fill(b []byte) {
	b = b[:cap(b)]
	for i := range b {
		b[i] = '!'
	}
}

// Of a nil disk: ErrNil, nothing, 0, false.
func TestNilDisk(t *testing.T) {
	var d *disk.Disk
	for what, c := range calls {
		want(t, what, c.do(d), api.ErrNil)
	}
	for what, c := range wrong {
		want(t, what, c.do(d), api.ErrNil)
	}
	d.Arm(0)
	d.Crash([]uint16{1})
	d.Crash(nil)
	for _, name := range []string{"", "a"} {
		if b, e := d.Read(name); len(b) != 0 || e != api.ErrNil {
			t.Errorf("Read(%q) = %q, %d", name, b, e)
		}
		if n := d.Sure(name); n != 0 {
			t.Errorf("Sure(%q) = %d", name, n)
		}
	}
	if d.Lost() || len(d.Names()) != 0 {
		t.Error("a nil disk is lost, or has files")
	}
}

// P1: a disk that was made by hand is one without files.
func TestDiskMadeByHand(t *testing.T) {
	for what, c := range wrong {
		d := &disk.Disk{}
		if e := c.do(d); e != api.ErrArg && e != api.ErrNone {
			t.Errorf("%s = %d", what, e)
		}
		wantFiles(t, what, d)
	}
	for what, c := range calls {
		d := &disk.Disk{}
		e := api.ErrNone
		if strings.HasPrefix(what, "Append") {
			e = api.OK
		}
		want(t, what, c.do(d), e)
		d = &disk.Disk{}
		d.Arm(0)
		if e == api.OK {
			e = api.ErrLost
		}
		want(t, what, c.do(d), e)
		d.Crash([]uint16{1})
		if d.Lost() {
			t.Errorf("%s: it is lost behind a crash", what)
		}
	}
}

// slow is a disk written otherwise: of each file its sure bytes and the others, and how many writes are left, below 0 if it is not armed.
type slow struct {
	sure, loose map[string]string
	left        int
	lost        bool
}

// goes tells the error of a write, and whether it is the one at which the disk is lost.
func (s *slow) goes() (api.Errno, bool) {
	if s.lost {
		return api.ErrLost, false
	}
	s.lost = s.left == 0
	if s.lost {
		return api.ErrLost, true
	}
	s.left--
	return api.OK, false
}

func (s *slow) do(kind int, name, to string, n int) api.Errno {
	_, there := s.sure[name]
	all := s.sure[name] + s.loose[name]
	switch {
	case kind == 0 && name == "":
		return api.ErrArg
	case kind != 0 && !there:
		return api.ErrNone
	case kind == 2 && (to == "" || to == name), kind == 4 && (n < 0 || n > len(all)):
		return api.ErrArg
	}
	e, now := s.goes()
	if e != api.OK && !(now && kind == 0) {
		return e
	}
	switch kind {
	case 0:
		s.sure[name] += ""
		s.loose[name] += to
	case 1:
		s.sure[name], s.loose[name] = all, ""
	case 2, 3:
		if kind == 2 {
			s.sure[to], s.loose[to] = s.sure[name], s.loose[name]
		}
		delete(s.sure, name)
		delete(s.loose, name)
	default:
		s.sure[name], s.loose[name] = all[:n], ""
	}
	return e
}

func (s *slow) crash(keep []uint16) {
	s.lost, s.left = false, -1
	for i, name := range s.names() {
		if part := s.loose[name]; i < len(keep) {
			s.sure[name] += part[:int(keep[i])%(len(part)+1)]
		}
		s.loose[name] = ""
	}
}

func (s *slow) names() []string {
	l := []string{}
	for name := range s.sure {
		l = append(l, name)
	}
	slices.Sort(l)
	return l
}

// wantSame holds d against s.
func wantSame(t *testing.T, d *disk.Disk, s *slow) {
	t.Helper()
	wantNames(t, "what is there", d, s.names()...)
	if d.Lost() != s.lost {
		t.Errorf("Lost = %v", d.Lost())
	}
	for _, name := range s.names() {
		all, e := s.sure[name]+s.loose[name], api.OK
		if s.lost {
			all, e = "", api.ErrLost
		}
		if b, got := d.Read(name); string(b) != all || got != e || d.Sure(name) != len(s.sure[name]) {
			t.Fatalf("Read(%q) = %q, %d, sure are %d; want %q, %d, %d", name, b, got, d.Sure(name), all, e, len(s.sure[name]))
		}
	}
}

// P6.1 to P6.3: whatever is done, one behind the other, it is as a disk that is written otherwise has it.
func TestAmongOthers(t *testing.T) {
	r := rand.New(rand.NewSource(13))
	names := []string{"a", "b", "c", "a", "b", ""}
	for range 300 {
		d := disk.New()
		s := &slow{sure: map[string]string{}, loose: map[string]string{}, left: -1}
		for range 60 {
			name, to := names[r.Intn(len(names))], names[r.Intn(len(names))]
			n := r.Intn(8) - 1
			switch k := r.Intn(12); k {
			case 5:
				d.Arm(n)
				s.left = max(n, 0)
			case 6:
				keep := make([]uint16, r.Intn(5))
				for i := range keep {
					keep[i] = uint16(r.Intn(1 << 16))
				}
				d.Crash(keep)
				s.crash(keep)
			default:
				kind := min(k, 11-k)
				got := []func() api.Errno{
					func() api.Errno { return d.Append(name, []byte(to)) },
					func() api.Errno { return d.Sync(name) },
					func() api.Errno { return d.Rename(name, to) },
					func() api.Errno { return d.Remove(name) },
					func() api.Errno { return d.Cut(name, n) },
				}[kind]()
				want(t, "a write", got, s.do(kind, name, to, n))
			}
			wantSame(t, d, s)
		}
	}
}
