// Package nat is naturals: see DOC.md, chapter 1.
//
// A natural is its limbs of 64 bits, the least first, without noughts at the
// end. The exported functions look at what they are given; those that they
// share take naturals that may be, of any length.
package nat

import (
	"cmp"
	"math/bits"
	"slices"

	"sluiceway/api"
)

// limbBits is how many bits a limb has.
const limbBits = 64

// May tells whether a is a natural of at most MaxLimbs limbs.
func May(a []uint64) bool {
	return len(a) <= api.MaxLimbs && (len(a) == 0 || a[len(a)-1] != 0)
}

// Norm is a without the noughts at its end, in memory of its own.
func Norm(a []uint64) []uint64 {
	return slices.Clone(trimmed(a))
}

// Cmp is -1, 0 or 1, as a is less than b, the same or greater; 0 of what may not be.
func Cmp(a, b []uint64) int {
	if !May(a) || !May(b) {
		return 0
	}
	return order(a, b)
}

// Len is how many bits a has: none of 0, and of what may not be.
func Len(a []uint64) int {
	if !May(a) || len(a) == 0 {
		return 0
	}
	return bitLen(a)
}

// Low is how many of the lowest bits of a are 0: -1 of 0, and of what may not be.
func Low(a []uint64) int {
	if !May(a) {
		return -1
	}
	low := 0
limbs:
	for _, x := range a {
		if x == 0 {
			low += limbBits
			continue limbs
		}
		return low + bits.TrailingZeros64(x)
	}
	return -1
}

// fits is the answer of a call that may have too many limbs.
func fits(a []uint64) ([]uint64, int) {
	if len(a) > api.MaxLimbs {
		return nil, api.ErrLimb
	}
	return a, api.OK
}

// trimmed is a without the noughts at its end, in the same memory.
func trimmed(a []uint64) []uint64 {
	n := len(a)
limbs:
	for n > 0 {
		switch a[n-1] {
		case 0:
			n--
		default:
			break limbs
		}
	}
	return a[:n]
}

// order is Cmp of what may be.
func order(a, b []uint64) int {
	if len(a) != len(b) {
		return cmp.Compare(len(a), len(b))
	}
limbs:
	for i := len(a) - 1; i >= 0; i-- {
		switch {
		case a[i] == b[i]:
			continue limbs
		case a[i] < b[i]:
			return -1
		default:
			return 1
		}
	}
	return 0
}

// bitLen is Len of what is not 0.
func bitLen(a []uint64) int {
	last := len(a) - 1
	return last*limbBits + bits.Len64(a[last])
}
