package desk_test

import (
	"fmt"
	"math"
	"math/rand"
	"regexp"
	"slices"
	"strconv"
	"strings"
	"testing"

	"virgate/api"
	"virgate/audit"
	"virgate/cidr"
	"virgate/client"
	"virgate/desk"
	"virgate/sched"
)

// base is the first address of the net that most is done in.
const base = 10 << 24

var pool24 = cidr.Net{Addr: base, Bits: 24}

// longest is a name that has as many bytes as it may have.
var longest = strings.Repeat("aZ0.-_xy", 8)

// spoken is what is asked, and its words, written by hand.
type spoken struct {
	words string
	o     client.Op
}

func allSpoken() []spoken {
	return []spoken{
		{"auto n1 h1 2", client.Op{Kind: client.Auto, Node: "n1", Handle: "h1", N: 2}},
		{"auto n1 h1 2 borrow", client.Op{Kind: client.Auto, Node: "n1", Handle: "h1", N: 2, Borrow: true}},
		{"auto borrow auto 0 borrow", client.Op{Kind: client.Auto, Node: "borrow", Handle: "auto", Borrow: true}},
		{"auto 1 2 1000000", client.Op{Kind: client.Auto, Node: "1", Handle: "2", N: 1000000}},
		{"auto " + longest + " _ 999999", client.Op{Kind: client.Auto, Node: longest, Handle: "_", N: 999999}},
		{"exact n1 h1 10.0.0.7", client.Op{Kind: client.Exact, Node: "n1", Handle: "h1", Addr: base + 7}},
		{"exact . - 255.255.255.255", client.Op{Kind: client.Exact, Node: ".", Handle: "-", Addr: math.MaxUint32}},
		{"free", client.Op{Kind: client.Free}},
		{"free 0.0.0.0", client.Op{Kind: client.Free, L: []uint32{0}}},
		{"free 10.0.0.2 10.0.0.1 10.0.0.2", client.Op{Kind: client.Free, L: []uint32{base + 2, base + 1, base + 2}}},
		{"freehandle h1", client.Op{Kind: client.FreeHandle, Handle: "h1"}},
		{"look " + longest, client.Op{Kind: client.Look, Handle: longest}},
		{"claim n1 10.0.0.64", client.Op{Kind: client.Claim, Node: "n1", Addr: base + 64}},
		{"leave n1 0.0.0.0", client.Op{Kind: client.Leave, Node: "n1"}},
		{"addpool 10.0.0.0/24", client.Op{Kind: client.AddPool, Net: pool24}},
		{"addpool 0.0.0.0/0", client.Op{Kind: client.AddPool}},
		{"addpool 255.255.255.255/32", client.Op{Kind: client.AddPool, Net: cidr.Net{Addr: math.MaxUint32, Bits: 32}}},
		{"openpool 10.0.0.0/24", client.Op{Kind: client.SetPool, Net: pool24, Open: true}},
		{"closepool 10.0.0.0/24", client.Op{Kind: client.SetPool, Net: pool24}},
		{"droppool 10.0.0.0/8", client.Op{Kind: client.DropPool, Net: cidr.Net{Addr: base, Bits: 8}}},
		{"addnode n1", client.Op{Kind: client.AddNode, Node: "n1"}},
		{"dropnode 10.0.0.1", client.Op{Kind: client.DropNode, Node: "10.0.0.1"}},
		{"collect", client.Op{Kind: client.Collect}},
	}
}

// happening is an event, and its line, written by hand.
type happening struct {
	line string
	e    sched.Event
}

func allHappenings() []happening {
	l := []happening{
		{"step 0", sched.Event{Kind: sched.Step}},
		{"step 63", sched.Event{Kind: sched.Step, Client: 63}},
		{"step 1000000", sched.Event{Kind: sched.Step, Client: 1000000}},
		{"stop 10", sched.Event{Kind: sched.Stop, Client: 10}},
		{"arm 0", sched.Event{Kind: sched.Arm}},
		{"arm 1000000", sched.Event{Kind: sched.Arm, N: 1000000}},
		{"crash", sched.Event{Kind: sched.Crash}},
		{"crash 0", sched.Event{Kind: sched.Crash, Keep: []uint16{0}}},
		{"crash 3 65535 0 3", sched.Event{Kind: sched.Crash, Keep: []uint16{3, 65535, 0, 3}}},
	}
	for k, x := range allSpoken() {
		l = append(l, happening{"begin " + strconv.Itoa(k) + " " + x.words, sched.Event{Kind: sched.Begin, Client: k, Op: x.o}})
	}
	return l
}

// as tells all parts of what is asked, or of an event.
func as(x any) string {
	return strings.NewReplacer("[]uint32(nil)", "[]uint32{}", "[]uint16(nil)", "[]uint16{}").Replace(fmt.Sprintf("%#v", x))
}

func isZero(o client.Op) bool { return as(o) == as(client.Op{}) }

// cantSay holds that o has no words.
func cantSay(t *testing.T, o client.Op) {
	t.Helper()
	if s, e := desk.Say(o); s != "" || e != api.ErrArg {
		t.Errorf("Say(%+v): %q, %d", o, s, e)
	}
	cantLine(t, sched.Event{Kind: sched.Begin, Client: 1, Op: o})
}

func cantLine(t *testing.T, e sched.Event) {
	t.Helper()
	if s, f := desk.Line(e); s != "" || f != api.ErrArg {
		t.Errorf("Line(%+v): %q, %d", e, s, f)
	}
}

// cantRead holds that s has the words of nothing.
func cantRead(t *testing.T, s string) {
	t.Helper()
	if o, e := desk.Read(s); !isZero(o) || e != api.ErrForm {
		t.Errorf("Read(%q): %+v, %d", s, o, e)
	}
	cantParse(t, "begin 1 "+s)
}

func cantParse(t *testing.T, line string) {
	t.Helper()
	if e, f := desk.Parse(line); as(e) != as(sched.Event{}) || f != api.ErrForm {
		t.Errorf("Parse(%q): %+v, %d", line, e, f)
	}
}

// Example 1 of the chapter.
func TestExample(t *testing.T) {
	e, f := desk.Parse("begin 0 auto n1 h1 2 borrow")
	if want := (sched.Event{Kind: sched.Begin, Op: client.Op{Kind: client.Auto, Node: "n1", Handle: "h1", N: 2, Borrow: true}}); as(e) != as(want) || f != api.OK {
		t.Errorf("Parse: %+v, %d", e, f)
	}
}

// P34.1, P34.3: each kind of what is asked, and its words.
func TestSayAndRead(t *testing.T) {
	for _, x := range allSpoken() {
		if s, e := desk.Say(x.o); s != x.words || e != api.OK {
			t.Errorf("Say(%+v): %q, %d; want %q", x.o, s, e, x.words)
		}
		if o, e := desk.Read(x.words); as(o) != as(x.o) || e != api.OK {
			t.Errorf("Read(%q): %+v, %d; want %+v", x.words, o, e, x.o)
		}
	}
}

// P34.1, P34.3: each kind of event, and its line.
func TestLineAndParse(t *testing.T) {
	for _, x := range allHappenings() {
		if s, e := desk.Line(x.e); s != x.line || e != api.OK {
			t.Errorf("Line(%+v): %q, %d; want %q", x.e, s, e, x.line)
		}
		if e, f := desk.Parse(x.line); as(e) != as(x.e) || f != api.OK {
			t.Errorf("Parse(%q): %+v, %d; want %+v", x.line, e, f, x.e)
		}
	}
}

// A list that is empty is as none.
func TestEmptyLists(t *testing.T) {
	for _, o := range []client.Op{{Kind: client.Free, L: []uint32{}}, {Kind: client.Collect, L: []uint32{}}} {
		if s, e := desk.Say(o); s != map[int]string{client.Free: "free", client.Collect: "collect"}[o.Kind] || e != api.OK {
			t.Errorf("Say(%+v): %q, %d", o, s, e)
		}
	}
	for _, e := range []sched.Event{{Kind: sched.Crash, Keep: []uint16{}}, {Kind: sched.Crash, Op: client.Op{L: []uint32{}}}} {
		if s, f := desk.Line(e); s != "crash" || f != api.OK {
			t.Errorf("Line(%+v): %q, %d", e, s, f)
		}
	}
}

// P34.1: what has no word must be 0, false, or empty.
func TestWhatHasNoWord(t *testing.T) {
	// Of each word that a kind begins with: what has words.
	said := map[string]string{"auto": "Node Handle N Borrow", "exact": "Node Handle Addr", "free": "L", "freehandle": "Handle", "look": "Handle", "claim": "Node Addr", "leave": "Node Addr", "addpool": "Net", "openpool": "Net Open", "closepool": "Net Open", "droppool": "Net", "addnode": "Node", "dropnode": "Node", "collect": ""}
	puts := map[string]func(o *client.Op){
		"Node":   func(o *client.Op) { o.Node = "n9" },
		"Handle": func(o *client.Op) { o.Handle = "h9" },
		"Addr":   func(o *client.Op) { o.Addr = 9 },
		"L":      func(o *client.Op) { o.L = []uint32{0} },
		"N":      func(o *client.Op) { o.N = 9 },
		"Borrow": func(o *client.Op) { o.Borrow = true },
		"Open":   func(o *client.Op) { o.Open = true },
		"Net":    func(o *client.Op) { o.Net = cidr.Net{Bits: 9} },
	}
	for _, x := range allSpoken() {
		word, _, _ := strings.Cut(x.words, " ")
		for what, put := range puts {
			o := x.o
			put(&o)
			s, e := desk.Say(o)
			if has := slices.Contains(strings.Fields(said[word]), what); has != (e == api.OK) || has == (s == "") {
				t.Errorf("%s with another %s: %q, %d", word, what, s, e)
			}
		}
	}
	for _, x := range allHappenings() {
		word, _, _ := strings.Cut(x.line, " ")
		has := map[string]string{"begin": "Client", "step": "Client", "stop": "Client", "arm": "N", "crash": "Keep"}[word]
		for what, put := range map[string]func(e *sched.Event){
			"Client": func(e *sched.Event) { e.Client = 9 },
			"N":      func(e *sched.Event) { e.N = 9 },
			"Keep":   func(e *sched.Event) { e.Keep = []uint16{0} },
		} {
			e := x.e
			put(&e)
			if s, f := desk.Line(e); (f == api.OK) != (what == has) || (s == "") == (what == has) {
				t.Errorf("%s with another %s: %q, %d", word, what, s, f)
			}
		}
		for _, put := range puts {
			if e := x.e; word != "begin" {
				put(&e.Op)
				cantLine(t, e)
			}
		}
		if word != "begin" {
			e := x.e
			e.Op.Kind = client.Collect
			cantLine(t, e)
		}
	}
}

// wrongNames may not be.
func wrongNames() []string {
	return []string{"", " ", "a b", "a ", " a", "a/b", "a\n", "ä", "a\x00", "\xff", "a,b", "a:b", "n1 h1", longest + "x"}
}

func wrongNets() []cidr.Net {
	return []cidr.Net{{Bits: -1}, {Bits: 33}, {Bits: math.MinInt}, {Bits: math.MaxInt}, {Addr: 1, Bits: 0}, {Addr: base + 1, Bits: 24}, {Addr: base, Bits: 4}}
}

// P34.1: what has words, but not such as must be.
func TestCantBeSaid(t *testing.T) {
	for _, name := range wrongNames() {
		for _, kind := range []int{client.Auto, client.Exact} {
			cantSay(t, client.Op{Kind: kind, Node: name, Handle: "h1"})
			cantSay(t, client.Op{Kind: kind, Node: "n1", Handle: name})
		}
		for _, kind := range []int{client.FreeHandle, client.Look} {
			cantSay(t, client.Op{Kind: kind, Handle: name})
		}
		for _, kind := range []int{client.Claim, client.Leave, client.AddNode, client.DropNode} {
			cantSay(t, client.Op{Kind: kind, Node: name})
		}
	}
	for _, n := range wrongNets() {
		for _, kind := range []int{client.AddPool, client.SetPool, client.DropPool} {
			cantSay(t, client.Op{Kind: kind, Net: n})
		}
		cantSay(t, client.Op{Kind: client.SetPool, Net: n, Open: true})
	}
	for _, n := range []int{-1, 1000001, math.MinInt, math.MaxInt} {
		cantSay(t, client.Op{Kind: client.Auto, Node: "n1", Handle: "h1", N: n})
		cantLine(t, sched.Event{Kind: sched.Arm, N: n})
		for _, kind := range []int{sched.Step, sched.Stop} {
			cantLine(t, sched.Event{Kind: kind, Client: n})
		}
		cantLine(t, sched.Event{Kind: sched.Begin, Client: n, Op: client.Op{Kind: client.Collect}})
	}
	for _, kind := range []int{0, -1, 14, 15, 1<<8 + 13, 1<<32 + 13, math.MinInt, math.MaxInt} {
		cantSay(t, client.Op{Kind: kind})
		cantSay(t, client.Op{Kind: kind, Node: "n1", Handle: "h1", N: 1})
	}
	for _, kind := range []int{0, -1, 6, 7, 1<<8 + 2, 1<<32 + 2, math.MinInt, math.MaxInt} {
		cantLine(t, sched.Event{Kind: kind})
		cantLine(t, sched.Event{Kind: kind, Client: 1, Op: client.Op{Kind: client.Collect}})
	}
	// What would have the words of something else.
	cantSay(t, client.Op{Kind: client.Auto, Node: "n1 h1", Handle: "2", N: 3})
	cantSay(t, client.Op{Kind: client.Auto, Node: "n1", Handle: "h1 2", Borrow: true})
	cantSay(t, client.Op{Kind: client.FreeHandle, Handle: "h1 10.0.0.1"})
}

// P34.1: words of nothing that can be said.
func TestCantBeRead(t *testing.T) {
	for _, s := range []string{
		"", " ", "\n", "x", "Auto n1 h1 2", "AUTO", "autos n1 h1 2", "au", "1", "?", "past", "audit", "begin 0 collect", "step 0", "setpool 10.0.0.0/24", "pool 10.0.0.0/24",
		"auto", "auto n1", "auto n1 h1", "auto n1 h1 ", "auto n1 h1 borrow", "auto n1 h1 2 3", "auto n1 h1 2 borro", "auto n1 h1 2 Borrow", "auto n1 h1 2 borrow borrow", "auto n1 h1 2 borrow ", "auto n1 h1 2 ", "auto  n1 h1 2", "auto n1  h1 2", "auto n1 h1  2", " auto n1 h1 2", "auto\tn1 h1 2", "auto n1 h1 2\n", "auto n1/x h1 2", "auto n1 h/1 2", "auto " + longest + "x h1 2",
		"auto n1 h1 02", "auto n1 h1 00", "auto n1 h1 -1", "auto n1 h1 -0", "auto n1 h1 +1", "auto n1 h1 1000001", "auto n1 h1 1_0", "auto n1 h1 0x1", "auto n1 h1 1e1", "auto n1 h1 1.0", "auto n1 h1 18446744073709551618", "auto n1 h1 9223372036854775808", "auto n1 h1 ٢", "auto n1 h1 x",
		"exact n1 h1", "exact n1 10.0.0.7", "exact n1 h1 10.0.0", "exact n1 h1 10.0.0.07", "exact n1 h1 10.0.0.256", "exact n1 h1 10.0.0.7/32", "exact n1 h1 167772167", "exact n1 h1 10.0.0.7 borrow", "exact n1 h1 10.0.0.7 10.0.0.8",
		"free ", "free  10.0.0.1", "free 10.0.0.1 ", "free 10.0.0.1  10.0.0.2", "free h1", "free 10.0.0.1,10.0.0.2", "free 10.0.0.1 x", "free 10.0.0.0/24",
		"freehandle", "freehandle ", "freehandle h1 h2", "look", "look h1 h2", "look h/1", "look \xff",
		"claim n1", "claim 10.0.0.0", "claim n1 10.0.0.0 1", "claim a/b 10.0.0.0", "leave n1 10.0.0.0/26", "leave n1",
		"addpool", "addpool 10.0.0.0", "addpool 10.0.0.1/24", "addpool 10.0.0.0/33", "addpool 10.0.0.0/024", "addpool 10.0.0.0-24", "addpool 10.0.0.0/24 open", "openpool", "openpool ", "openpool 10.0.0.0/24 10.0.1.0/24", "closepool 10.0.0.0/", "droppool /24", "droppool n1",
		"addnode", "addnode ", "addnode n1 n2", "addnode n 1", "addnode ä", "dropnode", "dropnode n1\n",
		"collect ", "collect now", "collect collect",
	} {
		cantRead(t, s)
	}
	for _, s := range []string{
		"", " ", "begin", "begin ", "begin 0", "begin 0 ", "begin collect", "begin -1 collect", "begin 00 collect", "begin 01 collect", "begin 1000001 collect", "begin 0 1 collect", "begin  0 collect", "begin 0  collect", " begin 0 collect", "begin 0 collect ", "begin 0 begin 0 collect", "begin 0 step 0",
		"step", "step ", "step 01", "step -1", "step 1000001", "step 1 2", "step 1 ", "step  1", "step x", "step n1", "Step 1", "steps 1", "step\t1", "step 1\n", "step 1\r", "step 9223372036854775808",
		"stop", "stop ", "stop +1", "stop 1000001", "stop 0 0",
		"arm", "arm ", "arm -1", "arm 1000001", "arm 1 1", "arm 007",
		"crash ", "crash 65536", "crash -1", "crash 01", "crash 1  2", "crash 1 ", "crash 1 x", "crash 1 1000000", "crash 1,2", "crash 65535 65536",
		"past", "audit", "collect", "auto n1 h1 2", "x", "?",
	} {
		cantParse(t, s)
	}
}

// said is what can be said, as the chapter has it, by patterns of texts.
var said = func() *regexp.Regexp {
	name := `[A-Za-z0-9._-]{1,64}`
	number := `(0|[1-9][0-9]{0,5}|1000000)`
	byte := `(0|[1-9][0-9]?|1[0-9][0-9]|2[0-4][0-9]|25[0-5])`
	addr := byte + `(\.` + byte + `){3}`
	net := addr + `/([0-9]|[12][0-9]|3[0-2])`
	keep := `(0|[1-9][0-9]{0,3}|[1-5][0-9]{4}|6[0-4][0-9]{3}|65[0-4][0-9]{2}|655[0-2][0-9]|6553[0-5])`
	op := `(auto ` + name + ` ` + name + ` ` + number + `( borrow)?|exact ` + name + ` ` + name + ` ` + addr + `|free( ` + addr + `)*|(freehandle|look) ` + name + `|(claim|leave) ` + name + ` ` + addr + `|(addpool|openpool|closepool|droppool) ` + net + `|(addnode|dropnode) ` + name + `|collect)`
	return regexp.MustCompile(`^(begin ` + number + ` ` + op + `|(step|stop|arm) ` + number + `|crash( ` + keep + `)*)\z`)
}()

// anyOf tells one of l.
func anyOf(chance *rand.Rand, l ...string) string { return l[chance.Intn(len(l))] }

// anyLine tells words that stand in lines, in an order in which they may stand, or, now and then, may not.
func anyLine(chance *rand.Rand) string {
	name := func() string { return anyOf(chance, "n1", "h1", "a.b", "-", "0", "borrow", "10.0.0.0") }
	number := func() string {
		return anyOf(chance, "0", "7", "10", "65535", "65536", "999999", "1000000", "1000001", "01")
	}
	addr := func() string { return anyOf(chance, "10.0.0.0", "0.0.0.0", "255.255.255.255", "10.0.0.01", "10.0.0") }
	net := func() string {
		return anyOf(chance, "10.0.0.0/24", "10.0.0.0/7", "10.0.0.0/8", "0.0.0.0/0", "10.0.0.0/08", "10.0.0.0/32", "10.0.0.64/26")
	}
	l := []string{}
	switch chance.Intn(12) {
	case 0:
		l = []string{anyOf(chance, "step", "stop", "arm", "past"), number()}
	case 1:
		l = []string{"crash"}
		for range chance.Intn(4) {
			l = append(l, number())
		}
	case 2:
		l = []string{"begin", number(), "free"}
		for range chance.Intn(4) {
			l = append(l, addr())
		}
	case 3, 4:
		l = []string{"begin", number(), "auto", name(), name(), number(), "borrow"}[:6+chance.Intn(2)]
	case 5:
		l = []string{"begin", number(), "exact", name(), name(), addr()}
	case 6:
		l = []string{"begin", number(), anyOf(chance, "freehandle", "look", "addnode", "dropnode"), name()}
	case 7, 8:
		l = []string{"begin", number(), anyOf(chance, "claim", "leave"), name(), addr()}
	case 9, 10:
		l = []string{"begin", number(), anyOf(chance, "addpool", "openpool", "closepool", "droppool"), net()}
	default:
		l = []string{"begin", number(), "collect"}
	}
	if k := chance.Intn(len(l)); chance.Intn(6) == 0 {
		l[k] = anyOf(chance, "", " ", name(), number(), addr(), net(), "begin", "collect")
	}
	if k := chance.Intn(len(l)); chance.Intn(12) == 0 {
		l = slices.Delete(l, k, k+1)
	}
	if k := chance.Intn(len(l) + 1); chance.Intn(12) == 0 {
		l = slices.Insert(l, k, anyOf(chance, "", name(), number(), addr(), net(), "borrow"))
	}
	s := []byte(strings.Join(l, " "))
	if chance.Intn(10) == 0 && len(s) > 0 {
		const bytes = "\x00\n\t 019/.-_aB\x7f\x80\xff"
		s[chance.Intn(len(s))] = bytes[chance.Intn(len(bytes))]
	}
	return string(s)
}

// P34.1, P34.3: whatever stands in a line, it is parsed just if it is one of those that can be said; then its line is the same again.
func TestAnyLine(t *testing.T) {
	chance := rand.New(rand.NewSource(34))
	well := map[bool]int{}
	for range 60000 {
		line := anyLine(chance)
		want := said.MatchString(line)
		if _, net, ok := strings.Cut(line, "pool "); want && ok {
			// A pattern does not tell whether all bits behind the first ones are 0.
			_, e := cidr.Parse(net)
			want = e == api.OK
		}
		e, f := desk.Parse(line)
		if (f == api.OK) != want || f != api.OK && (f != api.ErrForm || as(e) != as(sched.Event{})) {
			t.Fatalf("Parse(%q): %+v, %d; want it to be: %v", line, e, f, want)
		}
		well[want]++
		if !want {
			continue
		}
		if s, f := desk.Line(e); s != line || f != api.OK {
			t.Fatalf("Line(Parse(%q)): %q, %d", line, s, f)
		}
		_, words, _ := strings.Cut(strings.TrimPrefix(line, "begin "), " ")
		o, f := desk.Read(words)
		if strings.HasPrefix(line, "begin ") && (as(o) != as(e.Op) || f != api.OK) {
			t.Fatalf("Read(%q): %+v, %d; want %+v", words, o, f, e.Op)
		}
	}
	if well[true] < 10000 || well[false] < 10000 {
		t.Errorf("too little was tried: %v", well)
	}
}

// anyOp tells anything that may be asked, of which most can't be said.
func anyOp(chance *rand.Rand) client.Op {
	some := func() bool { return chance.Intn(3) == 0 }
	o := client.Op{Kind: chance.Intn(16) - 1}
	if chance.Intn(2) == 0 {
		x := allSpoken()
		o = x[chance.Intn(len(x))].o
	}
	if some() {
		o.Node = anyOf(chance, "n1", "", "n 1", longest)
	}
	if some() {
		o.Handle = anyOf(chance, "h1", "", "h/1", longest)
	}
	if some() {
		o.N = []int{0, 1, 1000000, 1000001, -1}[chance.Intn(5)]
	}
	if some() {
		o.Addr = []uint32{0, base, math.MaxUint32}[chance.Intn(3)]
	}
	if some() {
		o.L = make([]uint32, chance.Intn(3))
	}
	if some() {
		o.Net = []cidr.Net{{}, pool24, {Addr: base, Bits: 7}, {Addr: base, Bits: 33}}[chance.Intn(4)]
	}
	if some() {
		o.Open, o.Borrow = some(), some()
	}
	return o
}

// P34.1, P34.3: whatever is asked is said just if it is what can be said; then it is the same again, when it is read.
func TestAnyOp(t *testing.T) {
	chance := rand.New(rand.NewSource(35))
	well := 0
	for range 30000 {
		o := anyOp(chance)
		s, e := desk.Say(o)
		if e == api.OK {
			well++
			if back, f := desk.Read(s); as(back) != as(o) || f != api.OK || !said.MatchString("begin 0 "+s) {
				t.Fatalf("Read(Say(%+v)): %+v, %d, of %q", o, back, f, s)
			}
			continue
		}
		// No words that are right are the words of what can't be said.
		if s != "" || e != api.ErrArg {
			t.Fatalf("Say(%+v): %q, %d", o, s, e)
		}
		if canBeSaid(o) {
			t.Fatalf("Say(%+v): %d", o, e)
		}
	}
	if well < 3000 {
		t.Errorf("too little was tried: %d", well)
	}
}

var named = regexp.MustCompile(`^[A-Za-z0-9._-]{1,64}\z`)

// canBeSaid is what the chapter says of it.
func canBeSaid(o client.Op) bool {
	name := named.MatchString
	node, handle, net := name(o.Node), name(o.Handle), cidr.May(o.Net)
	left := o
	switch o.Kind {
	case client.Auto:
		left.Node, left.Handle, left.N, left.Borrow = "", "", 0, false
		return node && handle && o.N >= 0 && o.N <= 1000000 && isZero(without(left))
	case client.Exact:
		left.Node, left.Handle, left.Addr = "", "", 0
		return node && handle && isZero(without(left))
	case client.Free:
		left.L = nil
		return isZero(without(left))
	case client.FreeHandle, client.Look:
		left.Handle = ""
		return handle && isZero(without(left))
	case client.Claim, client.Leave:
		left.Node, left.Addr = "", 0
		return node && isZero(without(left))
	case client.AddPool, client.DropPool:
		left.Net = cidr.Net{}
		return net && isZero(without(left))
	case client.SetPool:
		left.Net, left.Open = cidr.Net{}, false
		return net && isZero(without(left))
	case client.AddNode, client.DropNode:
		left.Node = ""
		return node && isZero(without(left))
	case client.Collect:
		return isZero(without(left))
	}
	return false
}

func without(o client.Op) client.Op {
	o.Kind = 0
	return o
}

// What is asked, and told, is not written into by others.
func TestListsAreApart(t *testing.T) {
	o := client.Op{Kind: client.Free, L: []uint32{base, base + 1}}
	e := sched.Event{Kind: sched.Crash, Keep: []uint16{1, 2}}
	desk.Say(o)
	desk.Line(e)
	if o.L[0] != base || o.L[1] != base+1 || e.Keep[0] != 1 || e.Keep[1] != 2 {
		t.Errorf("what was handed in is %v, %v", o, e)
	}
	a, _ := desk.Read("free 10.0.0.0 10.0.0.1")
	clear(a.L)
	b, _ := desk.Read("free 10.0.0.0 10.0.0.1")
	if !slices.Equal(b.L, []uint32{base, base + 1}) {
		t.Errorf("read is %v", b)
	}
	s := sched.New(1, 9)
	l := desk.Script(s, "past\naudit\nstep 0")
	clear(l)
	if got := desk.Script(s, "past\naudit\nstep 0"); !slices.Equal(got, []string{"", noFlaw, "0"}) {
		t.Errorf("told is %q", got)
	}
}

const noFlaw = "0 0 0 0 0 0 0 0 0 0 0"

// answers holds what is answered, line by line.
func answers(t *testing.T, s *sched.Sched, l ...string) {
	t.Helper()
	for k := 0; k+1 < len(l); k += 2 {
		if got := desk.Run(s, l[k]); got != l[k+1] {
			t.Fatalf("%q: %q; want %q", l[k], got, l[k+1])
		}
	}
}

// P34.2: an event happens at the schedule, or does not; past and audit; all else.
func TestRun(t *testing.T) {
	s := sched.New(2, 3)
	answers(t, s,
		"past", "", "audit", noFlaw, "step 0", "0", "stop 0", "0", "step 1000000", "0",
		"begin 0 addnode n1", "1", "begin 0 addnode n1", "0", "begin 2 addnode n1", "0", "past", "",
		"step 0", "1", "step 0", "0", "past", "11 1 1 1 0", "audit", noFlaw,
		"", "?", " ", "?", "step", "?", "past ", "?", " past", "?", "Past", "?", "past\n", "?", "audit 1", "?", "audits", "?", "collect", "?", "begin 0", "?", "step 01", "?", "past audit", "?",
		"begin 1 addpool 10.0.0.0/25", "1", "step 1", "1", "stop 1", "1", "past", "8 1 0 0 0\n11 1 1 1 0",
		"begin 1 addpool 10.0.0.0/27", "1", "past", "8 2 1 0 0\n11 1 1 1 0",
		"arm 0", "1", "begin 1 addnode n2", "1", "begin 0 dropnode n1", "1", "step 1", "1", "step 1", "0", "past", "8 2 1 0 0\n11 2 1 1 0",
		"crash", "1", "past", "8 2 1 0 0\n11 2 1 1 0\n12 1 0 0 0", "crash 0 65535", "1", "step 0", "0", "arm 1000000", "1", "audit", noFlaw,
	)
	if l := s.Past(); len(l) != 5 || s.Lost() || len(s.Active()) != 0 || s.Rev() != 1 || l[4].Op.Kind != client.DropNode {
		t.Errorf("past is %+v; at %d; lost: %v", l, s.Rev(), s.Lost())
	}
}

// P34.2: audit tells how many flaws there are of each kind, those that are left over, too.
func TestRunAudit(t *testing.T) {
	s := sched.New(1, 9)
	runs := func(o string) {
		for desk.Run(s, "begin 0 "+o); len(s.Active()) > 0; {
			desk.Run(s, "step 0")
		}
	}
	stops := func(o string, steps int) {
		desk.Run(s, "begin 0 "+o)
		for range steps {
			desk.Run(s, "step 0")
		}
		desk.Run(s, "stop 0")
	}
	runs("addpool 10.0.0.0/24")
	runs("addnode n1")
	stops("auto n1 h1 5", 3+1+7+2) // the handle is counted, and nothing given
	answers(t, s, "audit", "0 0 0 0 0 0 0 1 0 0 0")
	stops("claim n1 10.0.0.64", 6) // the block is its own, the affinity Pending
	stops("claim n1 10.0.0.128", 4)
	answers(t, s, "audit", "0 0 0 0 0 0 0 1 2 0 0")
	runs("exact n1 h2 10.0.0.1")
	runs("dropnode n1")
	answers(t, s, "audit", "0 0 0 0 0 0 0 1 2 0 4")
	if want := audit.Counts(audit.Check(s.Items(), true)); want != [12]int{8: 1, 9: 2, 11: 4} {
		t.Errorf("there are %v", want)
	}
	runs("collect")
	answers(t, s, "audit", noFlaw, "past", "1 1 0 0 0\n2 1 1 1 1\n6 2 0 0 0\n8 1 1 1 0\n11 1 1 1 0\n12 1 1 1 0\n13 1 1 1 1")
}

// P34.2: each line that has a byte, one behind the other.
func TestScript(t *testing.T) {
	for _, x := range []struct {
		text string
		want []string
	}{
		{"", nil},
		{"\n", nil},
		{"\n\n\n", nil},
		{"past", []string{""}},
		{"audit\n", []string{noFlaw}},
		{"\naudit\n\n\nstep 0\n\n", []string{noFlaw, "0"}},
		{"begin 0 addnode n1\nstep 0\nstep 0\npast", []string{"1", "1", "0", "11 1 1 1 0"}},
		{"begin 0 addnode n1\r\nstep 0\r\n \npast", []string{"?", "?", "?", ""}},
		{"begin 0 addnode n1;step 0", []string{"?"}},
		{"begin 0 addnode n1\nstop 0\nbegin 0 collect\nstop 0\nbegin 0 look h1\nstep 0\npast\naudit", []string{"1", "1", "1", "1", "1", "1", "5 1 1 0 0\n11 1 0 0 0\n13 1 0 0 0", noFlaw}},
		{"\x00\n\xff", []string{"?", "?"}},
	} {
		s := sched.New(1, 9)
		if got := desk.Script(s, x.text); !slices.Equal(got, x.want) {
			t.Errorf("%q: %q; want %q", x.text, got, x.want)
		}
	}
}

// Of a nil schedule, and of one made by hand, nothing happens, and there is nothing.
func TestNil(t *testing.T) {
	for _, s := range []*sched.Sched{nil, {}} {
		answers(t, s, "past", "", "audit", noFlaw, "begin 0 collect", "0", "step 0", "0", "stop 0", "0", "arm 0", "0", "crash", "0", "crash 1", "0", "x", "?", "", "?")
		if got := desk.Script(s, "past\n\nstep 0\nx\naudit"); !slices.Equal(got, []string{"", "0", "?", noFlaw}) {
			t.Errorf("%q", got)
		}
	}
}

// P34.2: a schedule is as far as one that is told the same events, and answers what that does.
func TestAsTheSchedule(t *testing.T) {
	chance := rand.New(rand.NewSource(36))
	for range 40 {
		a, b := sched.New(3, 4), sched.New(3, 4)
		for range 300 {
			line := anyLine(chance)
			if chance.Intn(2) == 0 {
				line = "step " + strconv.Itoa(chance.Intn(3))
			}
			want := "?"
			if e, f := desk.Parse(line); f == api.OK {
				want = strconv.Itoa(b.Do(e))
			} else if line == "past" {
				want = strings.TrimSuffix(audit.Report(b.Past()), "\n")
			}
			if got := desk.Run(a, line); got != want {
				t.Fatalf("%q: %q; want %q", line, got, want)
			}
		}
		if fmt.Sprintf("%+v %+v", a.Items(), a.Past()) != fmt.Sprintf("%+v %+v", b.Items(), b.Past()) {
			t.Fatal("not the same has happened")
		}
	}
}

// Much is said, and read, too.
func TestMany(t *testing.T) {
	o := client.Op{Kind: client.Free}
	for k := range uint32(100000) {
		o.L = append(o.L, base+k*7)
	}
	s, e := desk.Say(o)
	back, f := desk.Read(s)
	if e != api.OK || f != api.OK || !slices.Equal(back.L, o.L) {
		t.Error("a long list is not the same again", e, f)
	}
	cantRead(t, s+" ")
	cantRead(t, strings.Repeat("collect ", 100000))
	if l := desk.Script(sched.New(1, 1), strings.Repeat("past\n\n", 10000)); len(l) != 10000 {
		t.Errorf("there are %d answers", len(l))
	}
}
