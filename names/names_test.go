package names_test

import (
	"fmt"
	"math/rand"
	"strings"
	"testing"

	"virgate/api"
	"virgate/cidr"
	"virgate/names"
)

const signs = "abcdefghijklmnopqrstuvwxyzABCDEFGHIJKLMNOPQRSTUVWXYZ0123456789.-_"

var (
	longest = strings.Repeat("z", api.MaxText)
	tooLong = strings.Repeat("z", api.MaxText+1)
)

// rightNames are names that may be, at the edges and between.
func rightNames() []string {
	l := []string{"a", "n1", ".", "-", "_", "..", "10.0.0.0-26", "pool", "lock", "A.b-c_9", signs[:64], signs[1:], longest}
	for _, r := range signs {
		l = append(l, string(r))
	}
	return l
}

// wrongNames are texts that are no names, of each kind.
func wrongNames() []string {
	l := []string{"", tooLong, signs, strings.Repeat("z", 1000), "a/b", "/", "/a", "a/", "a b", " a", "a ", "\u00e9", "a\u00e9", "\u0131", "\u017f", "\u212a", "\uff41", "\u0663", "\U0001d41a", "a\x00", "a\xff", "\xc3", "a\n", "a:b", "a+b", "a~", "\ufffd", strings.Repeat("\u00e9", 32)}
	for c := range 256 {
		if !strings.Contains(signs, string([]byte{byte(c)})) {
			b := string([]byte{byte(c)})
			l = append(l, b, "n"+b, b+"n", strings.Repeat("n", 63)+b)
		}
	}
	return l
}

// dotted tells an address as text, by another writer.
func dotted(a uint32) string {
	return fmt.Sprintf("%d.%d.%d.%d", a>>24, a>>16&255, a>>8&255, a&255)
}

// blockText tells how the block of a stands in a key, by another writer.
func blockText(a uint32) string {
	return dotted(a/64*64) + "-26"
}

// addresses are some at the edges, and any others.
func addresses() []uint32 {
	l := []uint32{0, 1, 63, 64, 65, 127, 128, 255, 256, 10<<24 + 70, 1<<31 - 1, 1 << 31, 1<<32 - 65, 1<<32 - 64, 1<<32 - 1}
	chance := rand.New(rand.NewSource(12))
	for range 300 {
		l = append(l, chance.Uint32())
	}
	return l
}

// whose tells all that a key is of, one text for each reading that takes it.
func whose(t *testing.T, key string) []string {
	t.Helper()
	var l []string
	tell := func(ok, nothing bool, what string) {
		t.Helper()
		if ok {
			l = append(l, what)
		} else if !nothing {
			t.Errorf("%q: beside false stands %s", key, what)
		}
	}
	n, ok := names.OfPool(key)
	tell(ok, n == cidr.Net{}, fmt.Sprintf("pool %d %d", n.Addr, n.Bits))
	a, ok := names.OfBlock(key)
	tell(ok, a == 0, fmt.Sprintf("block %d", a))
	node, a, ok := names.OfAff(key)
	tell(ok, node == "" && a == 0, fmt.Sprintf("aff %s %d", node, a))
	id, ok := names.OfHandle(key)
	tell(ok, id == "", "handle "+id)
	node, ok = names.OfNode(key)
	tell(ok, node == "", "node "+node)
	return l
}

// wantWhose holds that a key is of this, and of nothing else.
func wantWhose(t *testing.T, key, what string) {
	t.Helper()
	if l := whose(t, key); len(l) != 1 || l[0] != what {
		t.Errorf("%q is of %q; want %q", key, l, what)
	}
}

// wantNobodys holds that a key is of nothing.
func wantNobodys(t *testing.T, keys ...string) {
	t.Helper()
	for _, key := range keys {
		if l := whose(t, key); len(l) != 0 {
			t.Errorf("%.100q is of %.100q", key, l)
		}
	}
}

// wantKey holds a key that is told.
func wantKey(t *testing.T, what, key string, e api.Errno, want string) {
	t.Helper()
	if key != want || e != api.OK {
		t.Errorf("%s = %q, %d; want %q", what, key, e, want)
	}
}

// wantArg holds that no key is told.
func wantArg(t *testing.T, what, key string, e api.Errno) {
	t.Helper()
	if key != "" || e != api.ErrArg {
		t.Errorf("%s = %q, %d; want %d", what, key, e, api.ErrArg)
	}
}

// P12.1: the example, and what keys begin with.
func TestExample(t *testing.T) {
	wantKey(t, "Block", names.Block(10<<24+70), api.OK, "block/10.0.0.64-26")
	starts := names.Pools + names.Blocks + names.Affs + names.Handles + names.Nodes + names.Lock
	if starts != "pool/block/aff/handle/node/lock" {
		t.Errorf("keys begin with %s", starts)
	}
}

// P12.1: names.
func TestRight(t *testing.T) {
	for _, s := range rightNames() {
		if !names.Right(s) {
			t.Errorf("Right(%q) = false", s)
		}
	}
	for _, s := range wrongNames() {
		if names.Right(s) {
			t.Errorf("Right(%q) = true", s)
		}
	}
	for n := range 200 {
		if names.Right(strings.Repeat("a", n)) != (n >= 1 && n <= 64) {
			t.Errorf("a name of %d bytes", n)
		}
	}
}

// P12.1, P12.2: each byte of a name is looked at, wherever it stands.
func TestRightLooksAtAll(t *testing.T) {
	for i := range api.MaxText {
		for _, sign := range []string{"/", " ", "\x00", "\xff", "@", "[", "`", "{", ":", ","} {
			s := longest[:i] + sign + longest[i+1:]
			if names.Right(s) {
				t.Errorf("Right(%q) = true", s)
			}
			wantNobodys(t, "node/"+s, "handle/"+s, "aff/"+s+"/10.0.0.0-26")
		}
	}
}

// P12.1, P12.2: keys of what has a name.
func TestKeysOfNames(t *testing.T) {
	for _, s := range rightNames() {
		key, e := names.Handle(s)
		wantKey(t, "Handle", key, e, "handle/"+s)
		wantWhose(t, key, "handle "+s)
		key, e = names.Node(s)
		wantKey(t, "Node", key, e, "node/"+s)
		wantWhose(t, key, "node "+s)
		key, e = names.AffsOf(s)
		wantKey(t, "AffsOf", key, e, "aff/"+s+"/")
		wantNobodys(t, key)
		key, e = names.Aff(s, 10<<24+70)
		wantKey(t, "Aff", key, e, "aff/"+s+"/10.0.0.64-26")
		wantWhose(t, key, fmt.Sprintf("aff %s %d", s, 10<<24+64))
	}
}

// P12.1, P12.2: what is no name has no key, and no key is of it.
func TestWrongNames(t *testing.T) {
	for _, s := range wrongNames() {
		key, e := names.Handle(s)
		wantArg(t, "Handle", key, e)
		key, e = names.Node(s)
		wantArg(t, "Node", key, e)
		key, e = names.AffsOf(s)
		wantArg(t, "AffsOf", key, e)
		for _, a := range []uint32{0, 64, 1<<32 - 1} {
			key, e = names.Aff(s, a)
			wantArg(t, "Aff", key, e)
		}
		wantNobodys(t, "handle/"+s, "node/"+s, "aff/"+s+"/", "aff/"+s+"/10.0.0.64-26", "pool/"+s, "block/"+s)
	}
}

// P12.1, P12.2: of all addresses of a block the key is one.
func TestKeysOfBlocks(t *testing.T) {
	for _, a := range addresses() {
		key := names.Block(a)
		wantKey(t, "Block", key, api.OK, "block/"+blockText(a))
		wantWhose(t, key, fmt.Sprintf("block %d", a/64*64))
		key, e := names.Aff("n-1", a)
		wantKey(t, "Aff", key, e, "aff/n-1/"+blockText(a))
		wantWhose(t, key, fmt.Sprintf("aff n-1 %d", a/64*64))
	}
}

// P12.1, P12.2: pools, of all bits that there are.
func TestKeysOfPools(t *testing.T) {
	for _, a := range addresses() {
		for bits := range 27 {
			n := cidr.Net{Addr: uint32(uint64(a) >> (32 - bits) << (32 - bits)), Bits: bits}
			key, e := names.Pool(n)
			wantKey(t, "Pool", key, e, fmt.Sprintf("pool/%s-%d", dotted(n.Addr), bits))
			wantWhose(t, key, fmt.Sprintf("pool %d %d", n.Addr, bits))
		}
	}
}

// P12.1: nets that may not be, or have less than a block, are no pools.
func TestNoPools(t *testing.T) {
	for _, bits := range []int{-1 << 63, -32, -1, 27, 28, 31, 32, 33, 64, 1<<63 - 1} {
		for _, a := range []uint32{0, 10 << 24, 1<<32 - 1} {
			key, e := names.Pool(cidr.Net{Addr: a, Bits: bits})
			wantArg(t, "Pool", key, e)
		}
	}
	for bits := range 27 {
		for _, a := range []uint32{1, 32, 1 << (31 - bits), 1<<32 - 1} {
			key, e := names.Pool(cidr.Net{Addr: a, Bits: bits})
			wantArg(t, "Pool", key, e)
		}
	}
}

// P12.2: a net in a key has one form alone.
func TestNetsThatAreNone(t *testing.T) {
	for _, s := range []string{
		"", "-", "-26", "26", "10.0.0.0", "10.0.0.0-", "10.0.0.0-2", "10.0.0.0/26", "10.0.0.0-/26", "10.0.0.0/-26", "10.0.0.0/26-", "10.0.0.0--26", "10.0.0.0-26-", "-10.0.0.0-26",
		"10.0.0.0-026", "10.0.0.0-+26", "10.0.0.0- 26", "10.0.0.0-26 ", " 10.0.0.0-26", "10.0.0.0-26/", "/10.0.0.0-26", "10.0.0.0-26/26", "10.0.0.0-26-26", "10.0.0.0-0x1a", "10.0.0.0-26\x00", "10.0.0.0-26\n",
		"10.0.0-26", "10.0.0.0.0-26", "010.0.0.0-26", "10.0.0.00-26", "10.0.0.256-26", "256.0.0.0-26", "10..0.0-26", "a.0.0.0-26", "10,0,0,0-26",
		"10.0.0.1-26", "10.0.0.63-26", "10.0.0.65-26", "10.0.0.32-26", "10.0.0.255-26", "10.0.0.64-25", "10.0.0.128-24", "1.0.0.0-7",
		"10.0.0.0-27", "10.0.0.0-32", "10.0.0.1-32", "10.0.0.0-33", "10.0.0.0-99", "10.0.0.0-126", "10.0.0.0-282", "10.0.0.0-18446744073709551642",
	} {
		wantNobodys(t, "pool/"+s, "block/"+s, "aff/n/"+s)
	}
	// Pools have any bits up to a block's, blocks just so many.
	for bits := range 26 {
		s := fmt.Sprintf("0.0.0.0-%d", bits)
		wantWhose(t, "pool/"+s, fmt.Sprintf("pool 0 %d", bits))
		wantNobodys(t, "block/"+s, "aff/n/"+s)
	}
}

// P12.2: keys of nothing.
func TestNobodysKeys(t *testing.T) {
	wantNobodys(t, "", "/", "lock", "pool", "pool/", "block", "block/", "aff", "aff/", "aff//", "aff/n", "aff/n/", "handle", "handle/", "node", "node/",
		"10.0.0.0-26", "n", "n/10.0.0.0-26", "/n", "/10.0.0.0-26",
		"Pool/10.0.0.0-26", "BLOCK/10.0.0.0-26", "Aff/n/10.0.0.0-26", "Handle/h", "NODE/n", "nodes/n", "handles/h", "pools/10.0.0.0-26",
		"pool//10.0.0.0-26", "block//10.0.0.0-26", "aff//10.0.0.0-26", "aff/10.0.0.0-26", "aff/n//10.0.0.0-26", "aff/n/m/10.0.0.0-26", "aff/n/10.0.0.0-26/", "aff/n/10.0.0.0-26/x", "aff//n/10.0.0.0-26", "aff/n10.0.0.0-26",
		" node/n", "node/n ", "node /n", "node/ n", "node/n/", "node//n", "handle/h/", "handle//h", "xnode/n", "xhandle/h", "xpool/10.0.0.0-26", "xblock/10.0.0.0-26", "xaff/n/10.0.0.0-26",
		"poolblock/10.0.0.0-26", "node", "node/node/n", "handle/handle/h", "block/block/10.0.0.0-26", "pool/pool/10.0.0.0-26", "aff/aff/n/10.0.0.0-26",
		"node/"+tooLong, "handle/"+tooLong, "aff/"+tooLong+"/10.0.0.0-26", strings.Repeat("aff/", 1000), strings.Repeat("/", 1000))
}

// P12.3: two that are not the same have not the same key; what affinities of a node begin with is no other node's.
func TestKeysDiffer(t *testing.T) {
	seen := map[string]string{"lock": "the lock"}
	take := func(key, what string) {
		t.Helper()
		if other, there := seen[key]; there {
			t.Errorf("%q is the key of %s and of %s", key, other, what)
		}
		seen[key] = what
	}
	l := []string{"a", "aa", "b", "a.b", "10.0.0.0-26", "node", "handle", longest, longest[1:]}
	for _, s := range l {
		key, _ := names.Handle(s)
		take(key, "handle "+s)
		key, _ = names.Node(s)
		take(key, "node "+s)
		for a := uint32(0); a < 640; a += 64 {
			key, _ = names.Aff(s, a)
			take(key, fmt.Sprintf("aff %s %d", s, a))
			for _, other := range l {
				start, _ := names.AffsOf(other)
				if strings.HasPrefix(key, start) != (other == s) {
					t.Errorf("%q begins with %q", key, start)
				}
			}
		}
	}
	for a := uint32(0); a < 640; a += 64 {
		take(names.Block(a), fmt.Sprintf("block %d", a))
	}
	for bits := range 27 {
		key, _ := names.Pool(cidr.Net{Bits: bits})
		take(key, fmt.Sprintf("pool 0 %d", bits))
	}
	for key, what := range seen {
		if what != "the lock" {
			wantWhose(t, key, what)
		}
	}
}

// keyOf tells the key of what whose has told.
func keyOf(what string) string {
	var name string
	var a uint32
	var bits int
	key := ""
	switch kind, rest, _ := strings.Cut(what, " "); kind {
	case "pool":
		fmt.Sscan(rest, &a, &bits)
		key, _ = names.Pool(cidr.Net{Addr: a, Bits: bits})
	case "block":
		fmt.Sscan(rest, &a)
		key = names.Block(a)
	case "aff":
		fmt.Sscan(rest, &name, &a)
		key, _ = names.Aff(name, a)
	case "handle":
		key, _ = names.Handle(rest)
	case "node":
		key, _ = names.Node(rest)
	}
	return key
}

// P12.2, P12.3: any key that is of something is just the key of that, and of that alone.
func TestKeysThatAreChanged(t *testing.T) {
	chance := rand.New(rand.NewSource(3))
	keys := []string{"pool/10.0.0.0-24", "block/10.0.0.64-26", "aff/n1/10.0.0.64-26", "aff/a-b.c/0.0.0.0-26", "handle/h", "node/n1", "pool/0.0.0.0-0"}
	pieces := []string{"/", "-", ".", "0", "6", "n", "aff/", "pool/", "node/", "-26", "\x00", "\xff", " "}
	found := 0
	for range 100000 {
		key := keys[chance.Intn(len(keys))]
		for range 1 + chance.Intn(3) {
			i, j := chance.Intn(len(key)+1), chance.Intn(len(key)+1)
			if i > j {
				i, j = j, i
			}
			if j > i+2 {
				j = i
			}
			key = key[:i] + pieces[chance.Intn(len(pieces))] + key[j:]
		}
		l := whose(t, key)
		if len(l) > 1 {
			t.Errorf("%q is of %q", key, l)
		}
		for _, what := range l {
			found++
			if keyOf(what) != key {
				t.Errorf("%q is of %s, whose key is %q", key, what, keyOf(what))
			}
		}
	}
	if found < 1000 {
		t.Errorf("of so many keys only %d were of something", found)
	}
}
