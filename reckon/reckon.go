// Package reckon is arithmetic with intervals for layers that have none but by
// tapes: what is asked is written as a tape and evaluated. What has no answer
// panics as a fault.
package reckon

import (
	"math/bits"
	"slices"

	"sluiceway/api"
	"sluiceway/dyad"
	"sluiceway/fault"
	"sluiceway/tape"
)

const (
	// spanBits is how many bits times are reckoned to: as many as a tape takes.
	spanBits = 300
	// leastExp is the power of 2 that the ends of what is summed are not below, but for 0.
	leastExp = -1024
)

// Sum is c[0], and c[1] times time, and c[2] times its square, and so on, together.
func Sum(c []api.Ival, time api.Ival, bits int) api.Ival {
	lines := append(Pars(len(c)), api.Line{Op: api.OTime})
	// From the last coefficient on: what there is by now, times the time, and the one ahead.
	now := len(c) - 1
	for k := now - 1; k >= 0; k-- {
		lines = append(lines, api.Line{Op: api.OMul, A: now, B: len(c)}, api.Line{Op: api.OAdd, A: k, B: len(lines)})
		now = len(lines) - 1
	}
	return Value(lines, now, Blunt(time), Blunted(c), bits)
}

// Share is the products of each of a with that of b beside it, together, divided by n, which is above 0.
func Share(a, b []api.Ival, n, bits int) api.Ival {
	lines := append(Pars(2*len(a)), api.Line{Op: api.OConst, K: Whole(n)}, api.Line{Op: api.OConst})
	by := len(lines) - 2
	now := by + 1
	for k := range a {
		lines = append(lines, api.Line{Op: api.OMul, A: k, B: len(a) + k}, api.Line{Op: api.OAdd, A: now, B: len(lines)})
		now = len(lines) - 1
	}
	lines = append(lines, api.Line{Op: api.ODiv, A: now, B: by})
	return Value(lines, len(lines)-1, api.Ival{}, Blunted(slices.Concat(a, b)), bits)
}

// Rounded is x with blunt ends of so many bits.
func Rounded(x []api.Ival, bits int) []api.Ival {
	var all []api.Ival
	for _, a := range x {
		all = append(all, Sum([]api.Ival{a}, api.Ival{}, bits))
	}
	return all
}

// Span is about how long it is from one time to another, which is not ahead of it.
func Span(from, to api.Dyad) api.Ival {
	if long, code := dyad.Sub(to, from); code == api.OK {
		return Only(long)
	}
	lines := append(Pars(2), api.Line{Op: api.OSub, A: 0, B: 1})
	long := Value(lines, 2, api.Ival{}, Blunted([]api.Ival{Only(to), Only(from)}), spanBits)
	if long.Lo.Neg {
		long.Lo = api.Dyad{}
	}
	return long
}

// Value is a line's value, where the others may ask for a time and parameters.
func Value(lines []api.Line, which int, time api.Ival, p []api.Ival, bits int) api.Ival {
	t := api.Tape{Lines: lines, Outs: []int{which}}
	return fault.Must(tape.Eval(t, api.Env{T: time, P: p}, bits))[0]
}

// Pars are lines of n parameters.
func Pars(n int) []api.Line {
	var lines []api.Line
	for k := range n {
		lines = append(lines, api.Line{Op: api.OPar, A: k})
	}
	return lines
}

// Blunted is each of these blunt.
func Blunted(these []api.Ival) []api.Ival {
	var all []api.Ival
	for _, a := range these {
		all = append(all, Blunt(a))
	}
	return all
}

// Blunt is a, but an end that is so near to 0 that sums with it may have too many limbs is moved outward.
func Blunt(a api.Ival) api.Ival {
	return api.Ival{Lo: lowered(a.Lo), Hi: dyad.Neg(lowered(dyad.Neg(a.Hi)))}
}

// lowered is d, or the next number below it that is not so near to 0.
func lowered(d api.Dyad) api.Dyad {
	least := Least()
	least.Neg = d.Neg
	switch {
	case len(d.M) == 0 || dyad.Cmp(d, least)*dyad.Sign(d) >= 0:
		return d
	case d.Neg:
		return least
	}
	return api.Dyad{}
}

// Least is the least number above 0 that an end is left at.
func Least() api.Dyad {
	return api.Dyad{M: []uint64{1}, E: leastExp}
}

// Only is the interval of d alone.
func Only(d api.Dyad) api.Ival {
	return api.Ival{Lo: d, Hi: d}
}

// Whole is the interval of n alone, which is above 0.
func Whole(n int) api.Ival {
	low := bits.TrailingZeros(uint(n))
	return Only(api.Dyad{M: []uint64{uint64(n) >> low}, E: low})
}

// Size is the greatest number of a without its sign.
func Size(a api.Ival) api.Dyad {
	if low := dyad.Neg(a.Lo); dyad.Cmp(low, a.Hi) > 0 {
		return low
	}
	return a.Hi
}

// Grown is a with r more on each side.
func Grown(a api.Ival, r api.Dyad) (api.Ival, int) {
	return fault.Told(func() api.Ival {
		return api.Ival{Lo: fault.Must(dyad.Sub(a.Lo, r)), Hi: fault.Must(dyad.Add(a.Hi, r))}
	})
}

// Wider is x with 1/2 more on each side; of a number of too many bits for that the next ones of so many bits count.
func Wider(x []api.Ival, bits int) []api.Ival {
	half := api.Dyad{M: []uint64{1}, E: -1}
	begin := Rounded(x, bits)
	for k, a := range x {
		wide, code := Grown(a, half)
		if code != api.OK {
			wide = fault.Must(Grown(begin[k], half))
		}
		begin[k] = wide
	}
	return begin
}
