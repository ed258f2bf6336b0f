package ival

import (
	"sluiceway/api"
	"sluiceway/dyad"
	"sluiceway/fault"
	"sluiceway/round"
)

// Hull is the least interval that holds both a and b.
func Hull(a, b api.Ival) (api.Ival, int) {
	return asked(func(hi bool) api.Dyad { return further(end(a, hi), end(b, hi), hi) }, a, b)
}

// Meet is what is in both a and b.
func Meet(a, b api.Ival) (api.Ival, int) {
	return fault.Told(func() api.Ival {
		check(a, b)
		m := ends(func(hi bool) api.Dyad { return further(end(a, hi), end(b, hi), !hi) })
		if !May(m) {
			panic(fault.Code(api.ErrNone))
		}
		return m
	})
}

// Width is a's Hi less its Lo.
func Width(a api.Ival) (api.Dyad, int) {
	return fault.Told(func() api.Dyad {
		check(a)
		return fault.Must(dyad.Sub(a.Hi, a.Lo))
	})
}

// Mid is half of a's Lo and Hi together.
func Mid(a api.Ival) (api.Dyad, int) {
	return fault.Told(func() api.Dyad {
		check(a)
		all, code := dyad.Add(a.Lo, a.Hi)
		if code == api.ErrExp {
			// The sum's E alone is too high, not always the half's: so both are halved ahead.
			return fault.Must(dyad.Add(half(a.Lo), half(a.Hi)))
		}
		return half(fault.Must(all, code))
	})
}

// Inflate is a with r more on both sides.
func Inflate(a api.Ival, r api.Dyad) (api.Ival, int) {
	// From 0 to r: what may not be of an r that may not, or is below 0.
	side := api.Ival{Hi: r}
	return asked(func(hi bool) api.Dyad {
		if hi {
			return fault.Must(dyad.Add(a.Hi, r))
		}
		return fault.Must(dyad.Sub(a.Lo, r))
	}, a, side)
}

// Round is the least interval with ends of p bits that holds a.
func Round(a api.Ival, p int) (api.Ival, int) {
	return asked(func(hi bool) api.Dyad {
		if hi {
			return fault.Must(round.Up(a.Hi, p))
		}
		return fault.Must(round.Down(a.Lo, p))
	}, a)
}

// further is the greater one of a and b, or the lesser one.
func further(a, b api.Dyad, up bool) api.Dyad {
	if (dyad.Cmp(a, b) < 0) == up {
		return b
	}
	return a
}

// half is d times 2^-1.
func half(d api.Dyad) api.Dyad {
	return fault.Must(dyad.Shift(d, -1))
}
