package round

import (
	"sluiceway/api"
	"sluiceway/dyad"
	"sluiceway/fault"
	"sluiceway/nat"
)

// maxBits is how many bits a natural has at most.
const maxBits = 64 * api.MaxLimbs

// size is a real number not below 0: m times 2^e; or, with a rest, something between that and m+1 times 2^e.
type size struct {
	m    []uint64
	e    int
	rest bool
}

// cut is the Down, or the Up, to p bits of s, or of s below 0. With a rest, s has p bits at least.
func cut(neg bool, s size, p int, up bool) api.Dyad {
	n := max(0, nat.Len(s.m)-p)
	m, lost := scaled(s.m, -n)
	// Up leads away from 0 above it, down does below it.
	if (lost || s.rest) && up != neg {
		m = fault.Must(nat.Add(m, []uint64{1}))
	}
	return fault.Must(dyad.Norm(neg, m, s.e+n))
}

// quotient is the size of a divided by b, which is not 0; with p bits at least, unless it is 0.
func quotient(a, b api.Dyad, p int) size {
	k := p + nat.Len(b.M) - nat.Len(a.M)
	q, rest := divided(a.M, b.M, k)
	return size{q, a.E - b.E - k, rest}
}

// divided is a times 2^k divided by b, rounded down, and whether that leaves a rest. Of a times 2^k there are at most MaxPrec bits more than b has.
func divided(a, b []uint64, k int) ([]uint64, bool) {
	// The lowest s bits stay behind at first, so that the others fit. (Those of a times 2^k are all 0, for a itself fits.)
	s := max(0, nat.Len(a)+k-maxBits)
	n, lost := scaled(a, k-s)
	high, _ := scaled(b, -s)
	low := fault.Must(nat.Sub(b, raised(high, s)))
	q, over, code := nat.Div(n, high)
	fault.Check(code)
	// What is over must do for q times b's lowest bits too. They are so few, where there are any, that this is less than b: so q is at most 1 too great.
	c := nat.Cmp(raised(over, s), fault.Must(nat.Mul(q, low)))
	if c < 0 {
		q = fault.Must(nat.Sub(q, []uint64{1}))
	}
	return q, lost || c != 0
}

// root is the size of the square root of d, which is not below 0; with p bits, unless it is 0.
func root(d api.Dyad, p int) size {
	k := 2*p - nat.Len(d.M)
	if (d.E-k)%2 != 0 {
		// Only an even exponent has a half.
		k--
	}
	n, lost := scaled(d.M, k)
	r := fault.Must(nat.Root(n))
	rest := lost || nat.Cmp(fault.Must(nat.Mul(r, r)), n) != 0
	return size{r, (d.E - k) / 2, rest}
}

// scaled is m times 2^k, rounded down, and whether that leaves anything out; with k below 0, m is not 0.
func scaled(m []uint64, k int) ([]uint64, bool) {
	if k >= 0 {
		return raised(m, k), false
	}
	return fault.Must(nat.Shr(m, -k)), nat.Low(m) < -k
}

// raised is m times 2^k.
func raised(m []uint64, k int) []uint64 {
	return fault.Must(nat.Shl(m, k))
}
