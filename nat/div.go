package nat

import (
	"math"
	"math/bits"
	"slices"

	"sluiceway/api"
)

// Div is the quotient and the rest of a divided by b.
func Div(a, b []uint64) ([]uint64, []uint64, int) {
	switch {
	case !May(a) || !May(b):
		return nil, nil, api.ErrArg
	case len(b) == 0:
		return nil, nil, api.ErrDomain
	}
	q, r := quotient(a, b)
	return q, r, api.OK
}

// Root is the greatest natural whose square is at most a.
func Root(a []uint64) ([]uint64, int) {
	if !May(a) {
		return nil, api.ErrArg
	}
	if len(a) == 0 {
		return nil, api.OK
	}
	// Newton's way: from above it falls until it is there, and never below.
	x := raised([]uint64{1}, (bitLen(a)+1)/2)
	for {
		q, _ := quotient(a, x)
		y := lowered(sum(x, q), 1)
		if order(y, x) >= 0 {
			return x, api.OK
		}
		x = y
	}
}

// quotient is the quotient and the rest of a divided by b, which is not 0, in new memory.
func quotient(a, b []uint64) ([]uint64, []uint64) {
	if order(a, b) < 0 {
		return nil, slices.Clone(a)
	}
	// Both are raised till the divisor's highest bit is 1, for guess asks it; one of a single limb by a limb more, so that it has a second.
	n := bits.LeadingZeros64(b[len(b)-1])
	if len(b) == 1 {
		n += limbBits
	}
	u, v := spread(a, n), raised(b, n)
	q := make([]uint64, len(u)-len(v))
limbs:
	for j := len(q) - 1; j >= 0; j-- {
		w := u[j : j+len(v)+1]
		q[j] = guess(w, v)
		if takeTimes(w, v, q[j]) == 0 {
			continue limbs
		}
		// The guess is at most 1 too great.
		q[j]--
		addTimes(w, v, 1)
	}
	return trimmed(q), lowered(trimmed(u), n)
}

// guess is how often v goes into w, or 1 more, by their highest limbs. (v has two limbs at least and its highest bit is 1; w has one limb more than v, and without its lowest one is less than v.)
func guess(w, v []uint64) uint64 {
	n := len(v)
	top, next := v[n-1], v[n-2]
	digit, rest, over := uint64(math.MaxUint64), uint64(0), uint64(0)
	if w[n] < top {
		digit, rest = bits.Div64(w[n], w[n-1], top)
	} else {
		rest, over = bits.Add64(w[n-1], top, 0)
	}
nearer:
	for over == 0 {
		hi, lo := bits.Mul64(digit, next)
		if hi < rest || hi == rest && lo <= w[n-2] {
			break nearer
		}
		digit--
		rest, over = bits.Add64(rest, top, 0)
	}
	return digit
}
