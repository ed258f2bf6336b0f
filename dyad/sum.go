package dyad

import (
	"cmp"

	"sluiceway/api"
	"sluiceway/fault"
	"sluiceway/nat"
)

// Cmp is -1, 0 or 1, as a is less than b, the same or greater; 0 of what may not be.
func Cmp(a, b api.Dyad) int {
	if !May(a) || !May(b) {
		return 0
	}
	s := Sign(a)
	if c := cmp.Compare(s, Sign(b)); c != 0 {
		return c
	}
	return s * sizes(a, b)
}

// Add is a and b together.
func Add(a, b api.Dyad) (api.Dyad, int) {
	return fault.Told(func() api.Dyad { return sum(checked(a), checked(b)) })
}

// Sub is a without b.
func Sub(a, b api.Dyad) (api.Dyad, int) {
	return fault.Told(func() api.Dyad { return sum(checked(a), Neg(checked(b))) })
}

// sizes is Cmp of a and b without their signs; both are nought, or neither is.
func sizes(a, b api.Dyad) int {
	if c := cmp.Compare(top(a), top(b)); c != 0 {
		return c
	}
	// Only with the same top may they be brought to one E: neither gets more limbs than the other has.
	e := min(a.E, b.E)
	return nat.Cmp(over(a, e), over(b, e))
}

// top is how high the highest bit of d stands.
func top(d api.Dyad) int {
	return nat.Len(d.M) + d.E
}

// over is the natural that times 2^e is d without its sign; e is at most d's E.
func over(d api.Dyad, e int) []uint64 {
	return fault.Must(nat.Shl(d.M, d.E-e))
}

// sum is a and b together.
func sum(a, b api.Dyad) api.Dyad {
	switch {
	case len(a.M) == 0:
		return own(b)
	case len(b.M) == 0:
		return own(a)
	case a.Neg == b.Neg:
		return together(a, b)
	}
	switch sizes(a, b) {
	case 1:
		return without(a, b)
	case -1:
		return without(b, a)
	}
	return api.Dyad{}
}

// together is the sum of a and b, which have the same sign.
func together(a, b api.Dyad) api.Dyad {
	if a.E == b.E {
		// Both M are odd. Their sum is even and may have a bit more than fits, so it is halved ahead: it is twice the lesser half of one and the greater half of the other.
		return normal(a.Neg, fault.Must(nat.Add(lesser(a.M), greater(b.M))), a.E+1)
	}
	e := min(a.E, b.E)
	return normal(a.Neg, fault.Must(nat.Add(over(a, e), over(b, e))), e)
}

// without is the sum of a and b, which have different signs, a the greater size.
func without(a, b api.Dyad) api.Dyad {
	if a.E <= b.E {
		return normal(a.Neg, fault.Must(nat.Sub(a.M, over(b, a.E))), a.E)
	}
	// Over b's E, a is even and may have a bit more than fits where the difference has not; so half of it is taken, less the greater half of b's odd M. The difference is twice that and 1.
	half := fault.Must(nat.Sub(over(a, b.E+1), greater(b.M)))
	m := fault.Must(nat.Add(fault.Must(nat.Shl(half, 1)), []uint64{1}))
	return normal(a.Neg, m, b.E)
}

// lesser is half of m, which is odd, rounded down.
func lesser(m []uint64) []uint64 {
	return fault.Must(nat.Shr(m, 1))
}

// greater is half of m, which is odd, rounded up.
func greater(m []uint64) []uint64 {
	return fault.Must(nat.Add(lesser(m), []uint64{1}))
}
