package nat

import (
	"math/bits"
	"slices"

	"sluiceway/api"
)

// Add is a and b together.
func Add(a, b []uint64) ([]uint64, int) {
	if !May(a) || !May(b) {
		return nil, api.ErrArg
	}
	return fits(sum(a, b))
}

// Sub is a without b, which may not be greater.
func Sub(a, b []uint64) ([]uint64, int) {
	if !May(a) || !May(b) || order(a, b) < 0 {
		return nil, api.ErrArg
	}
	d := slices.Clone(a)
	takeTimes(d, b, 1)
	return trimmed(d), api.OK
}

// Mul is a times b.
func Mul(a, b []uint64) ([]uint64, int) {
	if !May(a) || !May(b) {
		return nil, api.ErrArg
	}
	return fits(product(a, b))
}

// sum is a and b together, in new memory.
func sum(a, b []uint64) []uint64 {
	if len(a) < len(b) {
		a, b = b, a
	}
	s := make([]uint64, len(a)+1)
	copy(s, a)
	addTimes(s, b, 1)
	return trimmed(s)
}

// product is a times b, in new memory.
func product(a, b []uint64) []uint64 {
	m := make([]uint64, len(a)+len(b))
rows:
	for i, x := range a {
		if x == 0 {
			continue rows
		}
		addTimes(m[i:], b, x)
	}
	return trimmed(m)
}

// addTimes adds b times n to a, in its place, modulo what a's limbs hold; b is not longer than a.
func addTimes(a, b []uint64, n uint64) {
	var carry uint64
limbs:
	for i := range a {
		var hi, lo, c uint64
		switch {
		case i < len(b):
			hi, lo = bits.Mul64(b[i], n)
		case carry == 0:
			break limbs
		}
		lo, c = bits.Add64(lo, carry, 0)
		hi += c
		a[i], c = bits.Add64(a[i], lo, 0)
		// A limb times a limb leaves room for two limbs more, so this can't overflow.
		carry = hi + c
	}
}

// takeTimes takes b times n from a, in its place, modulo what a's limbs hold, and tells what is owed still; b is not longer than a.
func takeTimes(a, b []uint64, n uint64) uint64 {
	var owed uint64
limbs:
	for i := range a {
		var hi, lo, c uint64
		switch {
		case i < len(b):
			hi, lo = bits.Mul64(b[i], n)
		case owed == 0:
			break limbs
		}
		lo, c = bits.Add64(lo, owed, 0)
		hi += c
		a[i], c = bits.Sub64(a[i], lo, 0)
		// Where hi is the greatest limb lo is 0 and borrows nothing, so this can't overflow.
		owed = hi + c
	}
	return owed
}
