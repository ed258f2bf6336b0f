package expo

import (
	"sluiceway/api"
	"sluiceway/dyad"
	"sluiceway/fault"
	"sluiceway/nat"
	"sluiceway/round"
)

// small is how far below 1 a number is brought ahead of its sum: below 2^-small, so that its terms soon become small.
const small = 8

// near is bounds of a real number above 0, in units of 2^-w: lo is rounded down wherever it must be, hi up, and so hi is never 0.
type near struct {
	lo, hi []uint64
	w      int
}

// bounds is an interval that holds e^d, by bounds in units of 2^-w; d is not 0.
func bounds(d api.Dyad, w int) api.Ival {
	k := max(0, round.Bits(d)+d.E+small)
	e := sum(part(d, k, w))
	for range k {
		e = e.times(e)
	}
	if dyad.Sign(d) < 0 {
		return inverse(e.between(), w)
	}
	return e.between()
}

// part is bounds of d divided by 2^k, without its sign.
func part(d api.Dyad, k, w int) near {
	n := d.E - k + w
	if n >= 0 {
		m := fault.Must(nat.Shl(d.M, n))
		return near{m, m, w}
	}
	return near{lowered(d.M, -n), raised(d.M, -n), w}
}

// sum is bounds of e^x, of x at most a half: of the sum of its terms, of which the first is 1, and the i-th behind it is the one ahead times x, divided by i.
func sum(x near) near {
	unit := []uint64{1}
	first := fault.Must(nat.Shl(unit, x.w))
	term := near{first, first, x.w}
	all := term
terms:
	for i := uint64(1); ; i++ {
		term = term.times(x).over(i)
		all = all.plus(term)
		if nat.Cmp(term.hi, unit) == 0 {
			break terms
		}
	}
	// Each term is at most half of the one ahead of it: so those that are left out are together at most the last one.
	return all.plus(near{nil, term.hi, x.w})
}

// plus is bounds of the sum of a and b.
func (a near) plus(b near) near {
	return near{fault.Must(nat.Add(a.lo, b.lo)), fault.Must(nat.Add(a.hi, b.hi)), a.w}
}

// times is bounds of the product of a and b.
func (a near) times(b near) near {
	lo, hi := fault.Must(nat.Mul(a.lo, b.lo)), fault.Must(nat.Mul(a.hi, b.hi))
	return near{lowered(lo, a.w), raised(hi, a.w), a.w}
}

// over is bounds of a divided by i.
func (a near) over(i uint64) near {
	lo, _ := divided(a.lo, i)
	hi, rest := divided(a.hi, i)
	if rest {
		hi = more(hi)
	}
	return near{lo, hi, a.w}
}

// between is all numbers between a's bounds.
func (a near) between() api.Ival {
	return api.Ival{Lo: fault.Must(dyad.Norm(false, a.lo, -a.w)), Hi: fault.Must(dyad.Norm(false, a.hi, -a.w))}
}

// inverse is an interval of ends of w bits that holds 1 divided by each number of a.
func inverse(a api.Ival, w int) api.Ival {
	return api.Ival{Lo: fault.Must(round.Quot(one(), a.Hi, w, false)), Hi: fault.Must(round.Quot(one(), a.Lo, w, true))}
}

// lowered is m divided by 2^n, rounded down.
func lowered(m []uint64, n int) []uint64 {
	return fault.Must(nat.Shr(m, n))
}

// raised is m divided by 2^n, rounded up; m is not 0.
func raised(m []uint64, n int) []uint64 {
	if nat.Low(m) < n {
		return more(lowered(m, n))
	}
	return lowered(m, n)
}

// divided is m divided by i, rounded down, and whether that leaves a rest.
func divided(m []uint64, i uint64) ([]uint64, bool) {
	q, rest, code := nat.Div(m, []uint64{i})
	fault.Check(code)
	return q, len(rest) > 0
}

// more is m and 1.
func more(m []uint64) []uint64 {
	return fault.Must(nat.Add(m, []uint64{1}))
}
