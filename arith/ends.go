package arith

import (
	"slices"

	"sluiceway/api"
	"sluiceway/dyad"
	"sluiceway/fault"
	"sluiceway/round"
)

// sum is all sums of a number of a and one of b. It is done with the Lo ahead of the Hi, so that the Lo's faults are the ones that are told.
func sum(a, b api.Ival, p int) api.Ival {
	lo := down(fault.Must(dyad.Add(a.Lo, b.Lo)), p)
	hi := up(fault.Must(dyad.Add(a.Hi, b.Hi)), p)
	return api.Ival{Lo: lo, Hi: hi}
}

// opposite is all numbers of a with the other sign.
func opposite(a api.Ival) api.Ival {
	return api.Ival{Lo: dyad.Neg(a.Hi), Hi: dyad.Neg(a.Lo)}
}

// roots is all square roots of a number of a, which has none below 0.
func roots(a api.Ival, p int) api.Ival {
	lo := fault.Must(round.Root(a.Lo, p, false))
	hi := fault.Must(round.Root(a.Hi, p, true))
	return api.Ival{Lo: lo, Hi: hi}
}

// corners are what op makes of each of a's ends and each of b's, in the order in which their faults are told. An op that with its other number held only rises, or only falls, has its least and its greatest value there.
func corners(a, b api.Ival, op func(x, y api.Dyad) api.Dyad) []api.Dyad {
	var all []api.Dyad
	for _, x := range []api.Dyad{a.Lo, a.Hi} {
		for _, y := range []api.Dyad{b.Lo, b.Hi} {
			all = append(all, op(x, y))
		}
	}
	return all
}

// product is x times y.
func product(x, y api.Dyad) api.Dyad {
	return fault.Must(dyad.Mul(x, y))
}

// quotient divides, and rounds to p bits.
func quotient(p int, up bool) func(x, y api.Dyad) api.Dyad {
	return func(x, y api.Dyad) api.Dyad { return fault.Must(round.Quot(x, y, p, up)) }
}

// least is the least of these; there is one at least.
func least(these ...api.Dyad) api.Dyad {
	return slices.MinFunc(these, dyad.Cmp)
}

// greatest is the greatest of these; there is one at least.
func greatest(these ...api.Dyad) api.Dyad {
	return slices.MaxFunc(these, dyad.Cmp)
}

// outward is the least interval with ends of p bits that holds lo and hi.
func outward(lo, hi api.Dyad, p int) api.Ival {
	low := down(lo, p)
	return api.Ival{Lo: low, Hi: up(hi, p)}
}

// down is d rounded down to p bits.
func down(d api.Dyad, p int) api.Dyad {
	return fault.Must(round.Down(d, p))
}

// up is d rounded up to p bits.
func up(d api.Dyad, p int) api.Dyad {
	return fault.Must(round.Up(d, p))
}
