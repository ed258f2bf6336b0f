package flow

import (
	"math/bits"
	"slices"

	"sluiceway/api"
	"sluiceway/dyad"
	"sluiceway/fault"
	"sluiceway/tape"
)

const (
	// fineBits is how many bits times are reckoned to: as many as a tape takes.
	fineBits = 300
	// leastExp is the power of 2 that the ends of what is summed are not below, but for 0.
	leastExp = -1024
)

// sum is c[0], and c[1] times time, and c[2] times its square, and so on, together.
func (s *system) sum(c []api.Ival, time api.Ival) api.Ival {
	lines := append(pars(len(c)), api.Line{Op: api.OTime})
	// From the last coefficient on: what there is by now, times the time, and the one ahead.
	now := len(c) - 1
	for k := now - 1; k >= 0; k-- {
		lines = append(lines, api.Line{Op: api.OMul, A: now, B: len(c)}, api.Line{Op: api.OAdd, A: k, B: len(lines)})
		now = len(lines) - 1
	}
	return reckoned(lines, now, blunt(time), blunted(c), s.bits)
}

// share is the products of each of a with that of b beside it, together, divided by n.
func (s *system) share(a, b []api.Ival, n int) api.Ival {
	lines := append(pars(2*len(a)), api.Line{Op: api.OConst, K: whole(n)}, api.Line{Op: api.OConst})
	by := len(lines) - 2
	now := by + 1
	for k := range a {
		lines = append(lines, api.Line{Op: api.OMul, A: k, B: len(a) + k}, api.Line{Op: api.OAdd, A: now, B: len(lines)})
		now = len(lines) - 1
	}
	lines = append(lines, api.Line{Op: api.ODiv, A: now, B: by})
	return reckoned(lines, len(lines)-1, api.Ival{}, blunted(slices.Concat(a, b)), s.bits)
}

// rounded is x with blunt ends of so many bits.
func (s *system) rounded(x []api.Ival) []api.Ival {
	var all []api.Ival
	for _, a := range x {
		all = append(all, s.sum([]api.Ival{a}, api.Ival{}))
	}
	return all
}

// clock is about the time when so much time has gone by.
func (s *system) clock(gone api.Dyad) api.Ival {
	lines := append(pars(2), api.Line{Op: api.OAdd, A: 0, B: 1})
	return reckoned(lines, 2, api.Ival{}, blunted([]api.Ival{only(s.from), only(gone)}), fineBits)
}

// span is about how much time there is.
func (s *system) span() api.Ival {
	if long, code := dyad.Sub(s.to, s.from); code == api.OK {
		return only(long)
	}
	lines := append(pars(2), api.Line{Op: api.OSub, A: 0, B: 1})
	long := reckoned(lines, 2, api.Ival{}, blunted([]api.Ival{only(s.to), only(s.from)}), fineBits)
	if long.Lo.Neg {
		long.Lo = api.Dyad{}
	}
	return long
}

// reckoned is a line's value, where the others may ask for a time and parameters.
func reckoned(lines []api.Line, which int, time api.Ival, p []api.Ival, bits int) api.Ival {
	t := api.Tape{Lines: lines, Outs: []int{which}}
	return fault.Must(tape.Eval(t, api.Env{T: time, P: p}, bits))[0]
}

// pars are lines of n parameters.
func pars(n int) []api.Line {
	var lines []api.Line
	for k := range n {
		lines = append(lines, api.Line{Op: api.OPar, A: k})
	}
	return lines
}

// blunted is each of these blunt.
func blunted(these []api.Ival) []api.Ival {
	var all []api.Ival
	for _, a := range these {
		all = append(all, blunt(a))
	}
	return all
}

// blunt is a, but an end that is so near to 0 that sums with it may have too many limbs is moved outward.
func blunt(a api.Ival) api.Ival {
	return api.Ival{Lo: lowered(a.Lo), Hi: dyad.Neg(lowered(dyad.Neg(a.Hi)))}
}

// lowered is d, or the next number below it that is not so near to 0.
func lowered(d api.Dyad) api.Dyad {
	least := api.Dyad{Neg: d.Neg, M: []uint64{1}, E: leastExp}
	switch {
	case len(d.M) == 0 || dyad.Cmp(d, least)*dyad.Sign(d) >= 0:
		return d
	case d.Neg:
		return least
	}
	return api.Dyad{}
}

// only is the interval of d alone.
func only(d api.Dyad) api.Ival {
	return api.Ival{Lo: d, Hi: d}
}

// whole is the interval of n alone, which is above 0.
func whole(n int) api.Ival {
	low := bits.TrailingZeros(uint(n))
	return only(api.Dyad{M: []uint64{uint64(n) >> low}, E: low})
}

// half is 1/2.
func half() api.Dyad {
	return api.Dyad{M: []uint64{1}, E: -1}
}
