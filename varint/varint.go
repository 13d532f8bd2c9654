// Package varint is layer 1: numbers as bytes; see shared/doc/01-varint.md.
package varint

import "seesaw/api"

const (
	bits   = 7         // of a number in each byte
	more   = 1 << bits // on each byte but the last one
	low    = more - 1  // the bits of the number in a byte
	widest = 10        // bytes of the greatest number
	top    = 1         // the tenth byte at most: 9 times 7 bits leave one of 64
)

// Put is a number's bytes.
func Put(n uint64) string {
	var out [widest]byte
	size := 0
sevens:
	for i := range widest {
		size = i + 1
		out[i] = byte(n & low)
		n >>= bits
		switch n {
		case 0:
			break sevens
		default:
			out[i] |= more
		}
	}
	return string(out[:size])
}

// Get is the number whose bytes stand at the beginning.
func Get(s string) (n uint64, size int, e api.Errno) {
	// A tenth byte is either above top or the last one, so that no more are looked at.
	for i := range len(s) {
		b := s[i]
		if i == widest-1 && b > top {
			return 0, 0, api.ErrRange
		}
		n |= uint64(b&low) << (bits * uint(i))
		if b >= more {
			continue
		}
		if b == 0 && i > 0 {
			return 0, 0, api.ErrWide
		}
		return n, i + 1, api.OK
	}
	return 0, 0, api.ErrShort
}

// Zig is a whole number as a number.
func Zig(x int64) uint64 {
	if x < 0 {
		return uint64(^x)<<1 | 1
	}
	return uint64(x) << 1
}

// Zag is the whole number that is a number.
func Zag(n uint64) int64 {
	half := int64(n >> 1)
	if n&1 == 1 {
		return ^half
	}
	return half
}
