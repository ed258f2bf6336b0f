package nat

import "sluiceway/api"

// Shl is a times 2^n.
func Shl(a []uint64, n int) ([]uint64, int) {
	switch {
	case !May(a) || n < 0:
		return nil, api.ErrArg
	case len(a) == 0:
		return nil, api.OK
	case n > api.MaxLimbs*limbBits-bitLen(a):
		// Asked ahead, for memory grows with n.
		return nil, api.ErrLimb
	}
	return raised(a, n), api.OK
}

// Shr is a divided by 2^n, rounded down.
func Shr(a []uint64, n int) ([]uint64, int) {
	if !May(a) || n < 0 {
		return nil, api.ErrArg
	}
	return lowered(a, n), api.OK
}

// raised is a times 2^n, in new memory.
func raised(a []uint64, n int) []uint64 {
	return trimmed(spread(a, n))
}

// spread is a times 2^n in new memory, with room for one limb more than a and the whole limbs of n have.
func spread(a []uint64, n int) []uint64 {
	whole, part := n/limbBits, n%limbBits
	up := make([]uint64, len(a)+whole+1)
limbs:
	for i, x := range a {
		if x == 0 {
			continue limbs
		}
		up[whole+i] |= x << part
		up[whole+i+1] = x >> (limbBits - part)
	}
	return up
}

// lowered is a divided by 2^n, rounded down, in new memory.
func lowered(a []uint64, n int) []uint64 {
	whole, part := n/limbBits, n%limbBits
	if whole >= len(a) {
		return nil
	}
	down := make([]uint64, len(a)-whole)
limbs:
	for i, x := range a[whole:] {
		down[i] |= x >> part
		if i == 0 {
			continue limbs
		}
		down[i-1] |= x << (limbBits - part)
	}
	return trimmed(down)
}
