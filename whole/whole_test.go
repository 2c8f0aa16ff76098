package whole

import (
	"math/rand"
	"slices"
	"strconv"
	"strings"
	"testing"

	"virgate/cidr"
	"virgate/client"
	"virgate/desk"
	"virgate/ip"
	"virgate/names"
)

func oneOf(chance *rand.Rand, l ...string) string { return l[chance.Intn(len(l))] }

func anyNode(chance *rand.Rand) string { return oneOf(chance, "n1", "n1", "n2", "n3", "n4") }

func anyHandle(chance *rand.Rand) string { return oneOf(chance, "h1", "h2", "h3", "h4") }

func anyNet(chance *rand.Rand) string {
	return oneOf(chance, "10.0.0.0/25", "10.0.0.0/25", "10.0.0.128/26", "10.0.0.0/24", "10.0.0.64/26", "10.0.1.0/26", "10.0.0.0/27")
}

// anyAddr tells an address, most often one that some pool has.
func anyAddr(chance *rand.Rand) string {
	return "10.0." + strconv.Itoa(chance.Intn(12)/11) + "." + strconv.Itoa(chance.Intn(192))
}

// anyAsked tells words of anything that may be asked; collecting only if that may be.
func anyAsked(chance *rand.Rand, collects bool) string {
	switch n := chance.Intn(40); {
	case n < 10:
		s := "auto " + anyNode(chance) + " " + anyHandle(chance) + " " + strconv.Itoa(chance.Intn(1<<chance.Intn(8)))
		if chance.Intn(2) == 0 {
			s += " borrow"
		}
		return s
	case n < 14:
		return "exact " + anyNode(chance) + " " + anyHandle(chance) + " " + anyAddr(chance)
	case n < 18:
		s := "free"
		for range chance.Intn(60) {
			s += " " + anyAddr(chance)
		}
		return s
	case n < 22:
		return oneOf(chance, "freehandle ", "freehandle ", "look ") + anyHandle(chance)
	case n < 28:
		return oneOf(chance, "claim ", "claim ", "leave ") + anyNode(chance) + " " + anyAddr(chance)
	case n < 34:
		return oneOf(chance, "addpool ", "addpool ", "openpool ", "openpool ", "closepool ", "droppool ") + anyNet(chance)
	case n < 37:
		return oneOf(chance, "addnode ", "addnode ", "addnode ", "dropnode ") + anyNode(chance)
	case collects:
		return "collect"
	}
	return "look " + anyHandle(chance)
}

// anyLine tells a line of anything that may happen; most of them are steps.
func (p *player) anyLine(chance *rand.Rand, collects bool) string {
	k := strconv.Itoa(chance.Intn(p.places))
	active := p.s.Active()
	if len(active) > 0 && chance.Intn(3) > 0 {
		k = strconv.Itoa(active[chance.Intn(len(active))])
	}
	switch n := chance.Intn(400); {
	case p.lost != nil && n%4 == 0 || n == 0:
		return p.crashLine(chance)
	case n < 4:
		return "arm " + strconv.Itoa(chance.Intn(60))
	case n < 7:
		return "stop " + k
	case n < 9:
		return oneOf(chance, "past", "audit", "step 64", "nothing", "begin 0 step 0")
	case n < 90 || len(active) == 0:
		return "begin " + k + " " + anyAsked(chance, collects)
	}
	return "step " + k
}

// begins lets pools and nodes be there, most often.
func (p *player) begins(chance *rand.Rand) {
	for _, words := range []string{"addpool 10.0.0.0/25", "addpool 10.0.0.128/26", "addnode n1", "addnode n2", "addnode n3"} {
		if chance.Intn(8) > 0 {
			p.alone(words)
		}
	}
}

// clears lets a pool go, once nothing lies in it any more, while those who are active stand still, and another one come.
func (p *player) clears(chance *rand.Rand) {
	for _, id := range []string{"h1", "h2", "h3", "h4"} {
		p.alone("freehandle " + id)
	}
	for _, pool := range p.seen.Pools {
		net := cidr.Print(pool.Net)
		p.alone("closepool " + net)
		for _, it := range p.s.Items() {
			if node, addr, is := names.OfAff(it.Key); is && pool.Net.Has(addr) {
				p.alone("leave " + node + " " + ip.Print(addr))
			}
		}
		p.alone(oneOf(chance, "droppool ", "openpool ") + net)
	}
	p.alone("addpool " + anyNet(chance))
}

// ends holds what must hold behind any schedule.
func (p *player) ends(chance *rand.Rand) {
	p.Helper()
	p.recovers()
	p.collected()
	for range 4 {
		p.givenBack(anyNode(chance), 1+chance.Intn(1<<chance.Intn(9)), chance.Intn(2) == 0, chance.Intn(2) == 0)
	}
	p.givenBack("n1", 4096, true, true)
}

// P0.1 to P0.6, and P33.3: any lines, with a collector and without, and all that must hold behind each of them, and behind all.
func TestAnySchedule(t *testing.T) {
	counts := map[string]int{}
	for k := range 100 {
		chance := rand.New(rand.NewSource(int64(k)))
		p := newPlayer(t, 1+chance.Intn(6), 1+chance.Intn(40), counts)
		p.begins(chance)
		for range 3 {
			for range 250 {
				p.run(p.anyLine(chance, k%3 > 0))
			}
			p.ends(chance)
			if chance.Intn(3) == 0 {
				p.clears(chance)
			}
		}
		p.again()
	}
	for what, least := range map[string]int{"begun": 5000, "steps": 50000, "ended": 4000, "told": 20000, "lost": 150, "more": 50, "short": 5, "pools gone": 50, "collected": 300, "given back": 30000} {
		if counts[what] < least {
			t.Errorf("too little was tried: %s %d times", what, counts[what])
		}
	}
}

// P0.2, P0.5: many clients that want the same few addresses, step by step in any turns.
func TestCrowded(t *testing.T) {
	counts := map[string]int{}
	for k := range 40 {
		chance := rand.New(rand.NewSource(int64(k)))
		p := newPlayer(t, 8, 1000, counts)
		for _, words := range []string{"addpool 10.0.0.0/26", "addnode n1", "addnode n2"} {
			p.alone(words)
		}
		for range 500 {
			line := "step " + strconv.Itoa(chance.Intn(8))
			if p.s.Active() == nil || chance.Intn(6) == 0 {
				a := "10.0.0." + strconv.Itoa(chance.Intn(3))
				node := oneOf(chance, "n1", "n2")
				line = "begin " + strconv.Itoa(chance.Intn(8)) + " " + oneOf(chance, "exact "+node+" h1 "+a, "free "+a, "auto "+node+" h2 "+strconv.Itoa(1+chance.Intn(40))+" borrow", "freehandle h2", "claim "+node+" "+a, "leave "+node+" "+a, "collect")
			}
			p.run(line)
		}
		p.ends(chance)
	}
	if counts["ended"] < 1000 || counts["told"] < 2000 {
		t.Errorf("too little was tried: %v", counts)
	}
}

// script tells lines by which something of each kind is done, by three in any turns.
func script(t *testing.T, chance *rand.Rand) []string {
	p := newPlayer(t, 3, 7, map[string]int{})
	for _, words := range []string{"addpool 10.0.0.0/25", "addnode n1", "addnode n2"} {
		p.alone(words)
	}
	waiting := []string{"auto n1 h1 70", "exact n2 h2 10.0.0.3", "claim n2 10.0.0.64", "auto n2 h2 3 borrow", "free 10.0.0.3 10.0.0.64 10.0.0.70", "look h1", "leave n1 10.0.0.0", "dropnode n2", "freehandle h1", "collect", "closepool 10.0.0.0/25", "auto n1 h3 2", "droppool 10.0.0.0/25"}
	for len(waiting) > 0 || len(p.s.Active()) > 0 {
		active := p.s.Active()
		if len(waiting) > 0 && (len(active) == 0 || len(active) < p.places && chance.Intn(9) == 0) {
			p.run("begin " + p.free() + " " + waiting[0])
			waiting = waiting[1:]
			continue
		}
		p.run("step " + strconv.Itoa(active[chance.Intn(len(active))]))
	}
	return p.lines
}

// crashLines tells what a crash may leave where the disk went away: nothing, all, or anything.
func (p *player) crashLines(chance *rand.Rand) []string {
	return []string{"crash", "crash " + strconv.Itoa(p.lossFrame()) + " 65535 65535", p.crashLine(chance)}
}

// P0.4: at each write of the disk, and whatever a crash leaves, the store is what was told, or that behind one write more; and what else must hold goes on to hold.
func TestAtEachWrite(t *testing.T) {
	counts := map[string]int{}
	chance := rand.New(rand.NewSource(4))
	lines := script(t, chance)
	for writes, lost := 0, true; lost; writes++ {
		for kind := range 3 {
			p := newPlayer(t, 3, 7, counts)
			p.run("arm " + strconv.Itoa(writes))
			lost = false
			for _, line := range lines {
				p.run(line)
				if p.lost != nil {
					lost = true
					p.run(p.crashLines(chance)[kind])
				}
			}
			p.ends(chance)
		}
	}
	if counts["lost"] < 200 || counts["more"] < 50 || counts["more"] > counts["lost"]-50 {
		t.Errorf("too little was tried: %v", counts)
	}
}

// P0.1, P0.4: a crash of a disk that is there loses nothing, wherever it comes.
func TestCrashOfWhatIsThere(t *testing.T) {
	chance := rand.New(rand.NewSource(5))
	lines := script(t, chance)
	p := newPlayer(t, 3, 7, map[string]int{})
	for _, line := range lines {
		p.run(line)
		past, items, active := p.run("past"), p.s.Items(), p.s.Active()
		p.run("crash " + strconv.Itoa(chance.Intn(1<<16)))
		if p.run("past") != past || !slices.Equal(p.s.Items(), items) || !slices.Equal(p.s.Active(), active) {
			p.fails("a crash of a disk that is there changes something")
		}
	}
	plain := newPlayer(t, 3, 7, map[string]int{})
	for _, line := range lines {
		plain.run(line)
	}
	if plain.run("past") != p.run("past") || !slices.Equal(plain.s.Items(), p.s.Items()) {
		p.fails("with crashes something else comes of it")
	}
}

// ready tells a player with a pool of four blocks, and the nodes n1 and n2.
func ready(t *testing.T) *player {
	p := newPlayer(t, 4, 5, map[string]int{})
	for _, words := range []string{"addpool 10.0.0.0/24", "addnode n1", "addnode n2"} {
		p.alone(words)
	}
	return p
}

// items tells the values of what there is, by keys.
func (p *player) items() map[string]string {
	m := map[string]string{}
	for _, it := range p.s.Items() {
		m[it.Key] = it.Val
	}
	return m
}

// last tells what those were told who are past behind the first n.
func (p *player) last(n int) map[int]client.Result {
	m := map[int]client.Result{}
	for _, x := range p.s.Past()[n:] {
		m[x.Client] = x.Result
	}
	return m
}

// turns lets two do what is asked, in all kinds of turns, and holds each time what holds tells of what both were told.
func turns(t *testing.T, ahead []string, a, b string, holds func(p *player, a, b client.Result) bool) {
	t.Helper()
	for pattern := range 1 << 11 {
		p := ready(t)
		for _, words := range ahead {
			p.alone(words)
		}
		n := len(p.s.Past())
		p.run("begin 0 " + a)
		p.run("begin 1 " + b)
		for k := 0; len(p.s.Active()) > 0; k++ {
			p.run("step " + strconv.Itoa(pattern>>(k%11)&1))
			if k%11 == 10 {
				p.run("step 0")
				p.run("step 1")
			}
		}
		r := p.last(n)
		if !holds(p, r[0], r[1]) {
			p.fails("told are %+v and %+v", r[0], r[1])
		}
	}
}

func code(a, b client.Result) [2]int { return [2]int{int(a.Code), int(b.Code)} }

// P0.2: of two pools that meet one comes, in whatever turns.
func TestPoolsThatMeet(t *testing.T) {
	turns(t, nil, "addpool 10.1.0.0/24", "addpool 10.1.0.128/25", func(p *player, a, b client.Result) bool {
		first, second := code(a, b) == [2]int{0, 11}, code(a, b) == [2]int{11, 0}
		return (first || second) && len(p.seen.Pools) == 2
	})
}

// From here on: the ten examples of the whole.

func TestExample1(t *testing.T) {
	p := ready(t)
	r, steps := p.alone("auto n1 h1 2")
	if steps != 4+7+4 || r.Code != 0 || len(r.L) != 2 || r.L[0]%64 != 0 || r.L[1] != r.L[0]+1 || len(p.seen.Blocks) != 1 || len(p.seen.Affs) != 1 {
		p.fails("told is %+v behind %d steps", r, steps)
	}
}

func TestExample2(t *testing.T) {
	turns(t, nil, "claim n1 10.0.0.70", "claim n2 10.0.0.127", func(p *player, a, b client.Result) bool {
		first := code(a, b) == [2]int{0, 11} && p.items()["aff/n1/10.0.0.64-26"] == "A\x02"
		second := code(a, b) == [2]int{11, 0} && p.items()["aff/n2/10.0.0.64-26"] == "A\x02"
		return (first || second) && len(p.seen.Affs) == 1 && len(p.seen.Blocks) == 1
	})
}

func TestExample3(t *testing.T) {
	p := ready(t)
	p.run("begin 0 claim n1 10.0.0.0")
	for range 6 {
		p.run("step 0")
	}
	p.run("stop 0")
	if b, there := p.seen.Block(10 << 24); !there || b.Aff != "n1" || p.items()["aff/n1/10.0.0.0-26"] != "A\x01" || p.run("audit") != "0 0 0 0 0 0 0 0 1 0 0" {
		p.fails("the block is %+v", b)
	}
	p.collected()
	if len(p.seen.Blocks)+len(p.seen.Affs) != 0 {
		p.fails("there are %v, %v", p.seen.Blocks, p.seen.Affs)
	}
}

func TestExample4(t *testing.T) {
	p := ready(t)
	p.alone("claim n1 10.0.0.0")
	r, _ := p.alone("exact n2 h2 10.0.0.7")
	if r.Code != 0 || !slices.Equal(r.L, []uint32{10<<24 + 7}) || p.seen.Handles["h2"].Of(10<<24) != 1 || p.run("audit") != "0 0 0 0 0 0 0 0 0 0 0" {
		p.fails("told is %+v; h2 has %v", r, p.seen.Handles["h2"])
	}
}

func TestExample5(t *testing.T) {
	turns(t, nil, "exact n1 h1 10.0.0.7", "exact n2 h2 10.0.0.7", func(p *player, a, b client.Result) bool {
		one := code(a, b) == [2]int{0, 11} && len(a.L) == 1 || code(a, b) == [2]int{11, 0} && len(b.L) == 1
		return one && len(p.seen.Given()) == 1
	})
}

func TestExample6(t *testing.T) {
	turns(t, []string{"exact n1 h1 10.0.0.7"}, "free 10.0.0.7", "freehandle h1", func(p *player, a, b client.Result) bool {
		return len(a.L)+len(b.L) == 1 && len(p.seen.Given()) == 0
	})
}

func TestExample7(t *testing.T) {
	turns(t, []string{"closepool 10.0.0.0/24", "openpool 10.0.0.0/24"}, "claim n1 10.0.0.0", "closepool 10.0.0.0/24", func(p *player, a, b client.Result) bool {
		r, _ := p.alone("droppool 10.0.0.0/24")
		return a.Code == 0 && r.Code == 10 && len(p.seen.Affs) == 1 || a.Code == 6 && r.Code == 0 && len(p.seen.Affs)+len(p.seen.Pools) == 0
	})
	turns(t, []string{"closepool 10.0.0.0/24"}, "openpool 10.0.0.0/24", "droppool 10.0.0.0/24", func(p *player, a, b client.Result) bool {
		r, _ := p.alone("claim n1 10.0.0.0")
		return b.Code == 0 && r.Code == 6 || b.Code == 10 && a.Code == 0 && r.Code == 0
	})
}

// The drop goes on while the node claims, in whatever turns.
func TestExample7OfThree(t *testing.T) {
	counts := map[string]int{}
	for k := range 600 {
		chance := rand.New(rand.NewSource(int64(k)))
		p := ready(t)
		n := len(p.s.Past())
		p.run("begin 0 claim n1 10.0.0.0")
		p.run("begin 1 closepool 10.0.0.0/24")
		for len(p.s.Active()) > 0 {
			k := chance.Intn(2)
			p.run("step " + strconv.Itoa(k))
			if l := p.s.Active(); k == 1 && !slices.Contains(l, 1) && p.s.Past()[len(p.s.Past())-1].Op.Kind == client.SetPool {
				p.run("begin 1 droppool 10.0.0.0/24")
			}
		}
		r := p.last(n)
		switch a, b := r[0].Code, r[1].Code; {
		case a == 0 && b == 10:
			counts["the drop finds it"]++
		case a == 6 && (b == 0 || b == 10):
			counts["the claim finds none"]++
		default:
			p.fails("told are %+v", r)
		}
	}
	if min(counts["the drop finds it"], counts["the claim finds none"]) < 50 {
		t.Errorf("too little was tried: %v", counts)
	}
}

func TestExample8(t *testing.T) {
	seen := map[int]int{}
	for keep := range 120 {
		p := ready(t)
		p.alone("exact n1 h1 10.0.0.9")
		p.run("begin 0 auto n1 h1 2")
		for !strings.HasPrefix(p.asks(0), "handle/") {
			p.run("step 0")
		}
		p.run("step 0")
		p.run("arm " + strconv.Itoa(keep%2))
		p.run("step 0")
		p.run("crash " + strconv.Itoa(keep))
		n := p.seen.Handles["h1"].Total()
		seen[n]++
		if n != 1 && n != 3 || len(p.seen.Given()) != 1 {
			p.fails("h1 has %d; given is %v", n, p.seen.Given())
		}
	}
	if seen[1] == 0 || seen[3] == 0 {
		t.Errorf("h1 had %v", seen)
	}
}

// asks tells the key that place k asks about.
func (p *player) asks(k int) string {
	o, _ := p.s.Asks(k)
	return o.Key
}

func TestExample9(t *testing.T) {
	p := ready(t)
	p.alone("auto n1 h1 100")
	p.alone("auto n2 h1 3")
	p.alone("dropnode n1")
	if len(p.seen.Given()) != 103 {
		p.fails("given is %v", p.seen.Given())
	}
	p.collected()
	for _, a := range p.seen.Given() {
		if a.Node != "n2" {
			p.fails("given is %v", p.seen.Given())
		}
	}
	if p.seen.Handles["h1"].Total() != 3 {
		p.fails("h1 has %v", p.seen.Handles["h1"])
	}
}

func TestExample10(t *testing.T) {
	p := ready(t)
	p.alone("auto n1 h1 100")
	if got := desk.Run(p.s, "audit"); got != "0 0 0 0 0 0 0 0 0 0 0" {
		p.fails("audit: %q", got)
	}
}
