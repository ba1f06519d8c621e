// Package word is layer 1, 64-bit words with carry: see shared/doc/01-word.md.
package word

import (
	"math/bits"

	"tombola/api"
)

// width is how many bits a word has.
const width = 64

// Add returns the sum of all three modulo 2^64, and 1 if the sum reaches 2^64: P1.1.
func Add(a, b, carry uint64) (sum, out uint64) {
	return bits.Add64(a, b, one(carry))
}

// Sub returns a less the other two modulo 2^64, and 1 if the difference is negative: P1.1.
func Sub(a, b, borrow uint64) (diff, out uint64) {
	return bits.Sub64(a, b, one(borrow))
}

// one is there because math/bits leaves open what comes of a carry above 1.
func one(carry uint64) uint64 {
	return min(carry, 1)
}

// Mul returns the product as two words: P1.2.
func Mul(a, b uint64) (high, low uint64) {
	return bits.Mul64(a, b)
}

// Div returns the quotient of two words by d, and the remainder: P1.2.
func Div(high, low, d uint64) (q, r uint64, e api.Errno) {
	if d == 0 {
		return 0, 0, api.ErrZero
	}
	if high >= d {
		return 0, 0, api.ErrLong
	}
	q, r = bits.Div64(high, low, d)
	return q, r, api.OK
}

// Len returns the number of bits without leading zeros: P1.3.
func Len(a uint64) int {
	n := 0
count:
	for {
		switch {
		case a == 0:
			break count
		case a < 1<<8:
			a >>= 1
			n++
		default:
			a >>= 8 // whole bytes first, so that a long word takes few rounds
			n += 8
		}
	}
	return n
}

// Shl returns a times 2^n as two words: P1.3.
func Shl(a uint64, n int) (high, low uint64, e api.Errno) {
	if !within(n) {
		return 0, 0, api.ErrArg
	}
	return a >> (width - n), a << n, api.OK
}

// Shr returns the low word of the two words divided by 2^n, rounded down: P1.3.
func Shr(high, low uint64, n int) (uint64, api.Errno) {
	if !within(n) {
		return 0, api.ErrArg
	}
	return low>>n | high<<(width-n), api.OK
}

// within holds for the shifts that a word allows: from 0 to 64.
func within(n int) bool {
	return 0 <= n && n <= width
}
