// Package ip is layer 1: addresses of four bytes. See shared/doc/01-ip.md.
package ip

import (
	"math"
	"math/bits"
	"strconv"
	"strings"

	"virgate/api"
)

// Parse tells the address that s is the text of.
func Parse(s string) (uint32, api.Errno) {
	var b [4]byte
	rest := s
	for i := range len(b) {
		digits, behind, point := strings.Cut(rest, ".")
		n, ok := parseByte(digits)
		last := i == len(b)-1
		if !ok || point == last {
			return 0, api.ErrForm
		}
		b[i] = n
		rest = behind
	}
	return Of(b), api.OK
}

// parseByte refuses noughts ahead, so that no address has two texts.
func parseByte(digits string) (byte, bool) {
	if len(digits) < 1 || len(digits) > 3 || len(digits) > 1 && digits[0] == '0' {
		return 0, false
	}
	n := 0
	for i := range len(digits) {
		if digits[i] < '0' || digits[i] > '9' {
			return 0, false
		}
		n = n*10 + int(digits[i]-'0')
	}
	if n > math.MaxUint8 {
		return 0, false
	}
	return byte(n), true
}

// Print tells the text of a.
func Print(a uint32) string {
	b := Bytes(a)
	var text []byte
	for i := range len(b) {
		if i > 0 {
			text = append(text, '.')
		}
		text = strconv.AppendUint(text, uint64(b[i]), 10)
	}
	return string(text)
}

// Bytes tells the bytes of a, the highest one first.
func Bytes(a uint32) [4]byte {
	var b [4]byte
	for i := range len(b) {
		b[i] = byte(a >> (24 - 8*i))
	}
	return b
}

// Of tells the address whose bytes are b.
func Of(b [4]byte) uint32 {
	var a uint32
	for i := range len(b) {
		a = a<<8 | uint32(b[i])
	}
	return a
}

// Add tells the address that is n behind a.
func Add(a uint32, n int64) (uint32, api.Errno) {
	// a and n together could wrap round; what a leaves on either side can't.
	if n < -int64(a) || n > math.MaxUint32-int64(a) {
		return 0, api.ErrArg
	}
	return uint32(int64(a) + n), api.OK
}

// Between tells how far b is behind a.
func Between(a, b uint32) int64 {
	return int64(b) - int64(a)
}

// Bit tells whether bit number i of a is 1; the highest one is number 0.
func Bit(a uint32, i int) bool {
	return i >= 0 && i < 32 && a>>(31-i)&1 == 1
}

// Lead tells how many bits, from the highest one on, a and b share.
func Lead(a, b uint32) int {
	return bits.LeadingZeros32(a ^ b)
}
