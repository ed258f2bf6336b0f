package expo

import (
	"math"
	"testing"

	"sluiceway/api"
	"sluiceway/dyad"
)

// float is d, of at most 53 bits.
func float(d api.Dyad) float64 {
	f := 0.0
	for i, x := range d.M {
		f += math.Ldexp(float64(x), 64*i+d.E)
	}
	if d.Neg {
		return -f
	}
	return f
}

// tryBoth tries n times 2^e and its opposite.
func tryBoth(t *testing.T, n int64, e, w int) {
	t.Helper()
	tryBounds(t, n, e, w)
	tryBounds(t, -n, e, w)
}

// tryBounds holds the bounds of e to n times 2^e against a float, of which all but the last bits are true.
func tryBounds(t *testing.T, n int64, e, w int) {
	t.Helper()
	d, _ := dyad.Of(n, e)
	held, want := bounds(d, w), math.Exp(float(d))
	lo, hi := float(held.Lo), float(held.Hi)
	if lo > want*(1+0x1p-50) || hi < want*(1-0x1p-50) {
		t.Fatalf("%d times 2^%d in units of 2^-%d: from %v to %v, want %v", n, e, w, lo, hi, want)
	}
	if w > guard && hi-lo > math.Ldexp(lo, guard-8-w) {
		t.Fatalf("%d times 2^%d in units of 2^-%d: from %v to %v, which are far from each other", n, e, w, lo, hi)
	}
}

// TestBounds: however great the units are, bounds hold what is true; and they lose fewer bits than are kept on guard. (Of the answers, units are so small that faults of one of them are hardly seen.)
func TestBounds(t *testing.T) {
	for w := 8; w <= 48; w++ {
		for e := -50; e <= 2; e++ {
			for n := int64(1); n <= 15; n += 2 {
				tryBoth(t, n, e, w)
			}
			// Wherever this is cut, nearly a whole unit is left out.
			tryBoth(t, 1<<30-1, e-26, w)
		}
		tryBoth(t, 1, 6, w)
	}
}
