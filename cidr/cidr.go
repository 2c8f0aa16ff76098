// Package cidr is layer 2: nets. See shared/doc/02-cidr.md.
package cidr

import (
	"strconv"
	"strings"

	"virgate/api"
	"virgate/ip"
)

// width is how many bits an address has.
const width = 32

// Net is all addresses whose first Bits bits are those of Addr.
type Net struct {
	Addr uint32
	Bits int
}

// May tells whether n is a net at all.
func May(n Net) bool {
	return mayBits(n.Bits) && n.Addr&^Mask(n.Bits) == 0
}

func mayBits(bits int) bool {
	return bits >= 0 && bits <= width
}

// Parse tells the net that s is the text of.
func Parse(s string) (Net, api.Errno) {
	addr, digits, slash := strings.Cut(s, "/")
	if !slash {
		return Net{}, api.ErrForm
	}
	a, e := ip.Parse(addr)
	bits, ok := parseBits(digits)
	n := Net{Addr: a, Bits: bits}
	if e != api.OK || !ok || !May(n) {
		return Net{}, api.ErrForm
	}
	return n, api.OK
}

// parseBits refuses noughts ahead, so that no net has two texts; whether a net may have so many bits is asked elsewhere.
func parseBits(digits string) (int, bool) {
	if len(digits) < 1 || len(digits) > 2 || len(digits) > 1 && digits[0] == '0' {
		return 0, false
	}
	bits := 0
	for i := range len(digits) {
		if digits[i] < '0' || digits[i] > '9' {
			return 0, false
		}
		bits = bits*10 + int(digits[i]-'0')
	}
	return bits, true
}

// Print tells the text of n.
func Print(n Net) string {
	if !May(n) {
		return ""
	}
	return ip.Print(n.Addr) + "/" + strconv.Itoa(n.Bits)
}

// Mask has the first bits bits 1, and all others 0.
func Mask(bits int) uint32 {
	bits = min(max(bits, 0), width)
	return ^uint32(0) << (width - bits)
}

// Size tells how many addresses n has.
func (n Net) Size() int64 {
	return n.Count(width)
}

// Last tells the greatest address of n.
func (n Net) Last() uint32 {
	if !May(n) {
		return 0
	}
	return n.Addr | ^Mask(n.Bits)
}

// Has tells whether n has the address a.
func (n Net) Has(a uint32) bool {
	return May(n) && a&Mask(n.Bits) == n.Addr
}

// Covers tells whether n has all addresses of m.
func (n Net) Covers(m Net) bool {
	return May(m) && n.Bits <= m.Bits && n.Has(m.Addr)
}

// Meets tells whether n has an address of m.
func (n Net) Meets(m Net) bool {
	// Masks are nested, so that nets never lie half in one another.
	return n.Covers(m) || m.Covers(n)
}

// Count tells how many nets of bits bits n covers.
func (n Net) Count(bits int) int64 {
	if !May(n) || !mayBits(bits) || bits < n.Bits {
		return 0
	}
	return int64(1) << (bits - n.Bits)
}

// Nth tells the k-th net of bits bits that n covers, from 0 on.
func (n Net) Nth(bits int, k int64) (Net, api.Errno) {
	if k < 0 || k >= n.Count(bits) {
		return Net{}, api.ErrArg
	}
	return Net{Addr: n.Addr + uint32(k<<(width-bits)), Bits: bits}, api.OK
}

// Block tells the net of bits bits that has the address a.
func Block(a uint32, bits int) (Net, api.Errno) {
	if !mayBits(bits) {
		return Net{}, api.ErrArg
	}
	return Net{Addr: a & Mask(bits), Bits: bits}, api.OK
}

// Place tells how far a is behind the first address of n, if n has it.
func (n Net) Place(a uint32) (int64, bool) {
	if !n.Has(a) {
		return 0, false
	}
	return ip.Between(n.Addr, a), true
}
