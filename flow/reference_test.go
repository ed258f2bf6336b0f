package flow_test

import (
	"math/big"
	"math/rand/v2"
	"slices"

	"sluiceway/api"
)

// The reference knows nothing of intervals, nor of series and derivatives: it goes from point to point by the midpoint rule, in so many bits, and from what that tells with ever more steps it tells what it would with infinitely many.
const (
	digits = 400
	// columns is of how many numbers of steps.
	columns = 14
	// slack is how many times more than by its own account it may be wrong, as a power of two.
	slack = 30
	// vague is of which power of two on it is too wrong to hold anything against.
	vague = -64
)

// float is n times 2^e.
func float(n int64, e int) *big.Float {
	z := new(big.Float).SetPrec(digits).SetInt64(n)
	return z.SetMantExp(z, e)
}

// worth is d as a float.
func worth(d api.Dyad) *big.Float {
	z := new(big.Int)
	for _, x := range slices.Backward(d.M) {
		z.Lsh(z, 64).Or(z, new(big.Int).SetUint64(x))
	}
	if d.Neg {
		z.Neg(z)
	}
	f := new(big.Float).SetPrec(digits).SetInt(z)
	return f.SetMantExp(f, d.E)
}

// point is a number of a: one of its ends, or one between.
func point(r *rand.Rand, a api.Ival) *big.Float {
	lo, part := worth(a.Lo), worth(a.Hi)
	part.Sub(part, lo).Mul(part, float([]int64{0, 1 << 20, r.Int64N(1 << 20)}[r.IntN(3)], -20))
	return lo.Add(lo, part)
}

// points are numbers of these.
func points(r *rand.Rand, these []api.Ival) []*big.Float {
	var all []*big.Float
	for _, a := range these {
		all = append(all, point(r, a))
	}
	return all
}

// one is a system with one number of each of its intervals.
type one struct {
	f     api.Tape
	ks, p []*big.Float
}

// chosen is f with a number of each constant and parameter.
func chosen(r *rand.Rand, f api.Tape, p []api.Ival) one {
	var ks []api.Ival
	for _, l := range f.Lines {
		ks = append(ks, l.K)
	}
	return one{f, points(r, ks), points(r, p)}
}

// raised is e to the power of x.
func raised(x *big.Float) *big.Float {
	term, all := float(1, 0), float(1, 0)
	for n := int64(1); term.Sign() != 0 && term.MantExp(nil) > -digits; n++ {
		term.Mul(term, x).Quo(term, float(n, 0))
		all.Add(all, term)
	}
	return all
}

// result is what the line i is, where those above it are these; none, if it has no value.
func (q one) result(i int, t *big.Float, x, above []*big.Float) *big.Float {
	l := q.f.Lines[i]
	switch l.Op {
	case api.OConst:
		return q.ks[i]
	case api.OTime:
		return t
	case api.OState:
		return x[l.A]
	case api.OPar:
		return q.p[l.A]
	}
	a, b, z := above[l.A], above[l.B], float(0, 0)
	switch l.Op {
	case api.OAdd:
		return z.Add(a, b)
	case api.OSub:
		return z.Sub(a, b)
	case api.OMul:
		return z.Mul(a, b)
	case api.ODiv:
		if b.Sign() == 0 {
			return nil
		}
		return z.Quo(a, b)
	case api.ONeg:
		return z.Neg(a)
	case api.OSqr:
		return z.Mul(a, a)
	case api.OSqrt:
		if a.Sign() < 0 {
			return nil
		}
		return z.Sqrt(a)
	}
	if a.Sign() != 0 && a.MantExp(nil) > 8 {
		return nil
	}
	return raised(a)
}

// rates is x' at a time and a place; none, if it has no value there, or too great a one.
func (q one) rates(t *big.Float, x []*big.Float) []*big.Float {
	var all []*big.Float
	for i := range q.f.Lines {
		v := q.result(i, t, x, all)
		if v == nil || v.Sign() != 0 && v.MantExp(nil) > 200 {
			return nil
		}
		all = append(all, v)
	}
	var outs []*big.Float
	for _, line := range q.f.Outs {
		outs = append(outs, all[line])
	}
	return outs
}

// along is each of x and that of v beside it, so many times.
func along(x, v []*big.Float, times *big.Float) []*big.Float {
	all := make([]*big.Float, len(x))
	for k := range x {
		all[k] = float(0, 0).Mul(v[k], times)
		all[k].Add(all[k], x[k])
	}
	return all
}

// midpoint is where x comes to within h from the time t on, in n steps, an even number; none, if there is no value on the way.
func (q one) midpoint(t *big.Float, x []*big.Float, h *big.Float, n int) []*big.Float {
	size := float(0, 0).Quo(h, float(int64(n), 0))
	twice := float(0, 0).Add(size, size)
	now := float(0, 0).Set(t)
	v := q.rates(now, x)
	if v == nil {
		return nil
	}
	last, here := x, along(x, v, size)
	for range n - 1 {
		now = float(0, 0).Add(now, size)
		if v = q.rates(now, here); v == nil {
			return nil
		}
		last, here = here, along(last, v, twice)
	}
	return here
}

// goes is where x comes to within h from the time t on, and by about how much that is wrong; none, if there is no value on the way.
func (q one) goes(t *big.Float, x []*big.Float, h *big.Float) ([]*big.Float, *big.Float) {
	var row [][]*big.Float
	off := float(0, 0)
	for j := range columns {
		next := [][]*big.Float{q.midpoint(t, x, h, 2*j+2)}
		if next[0] == nil {
			return nil, nil
		}
		for k := range row {
			// Errors go down as the squares of the sizes.
			ratio := float(0, 0).Quo(float(int64(j+1), 0), float(int64(j-k), 0))
			ratio.Mul(ratio, ratio).Sub(ratio, float(1, 0))
			change := along(next[k], row[k], float(-1, 0))
			next = append(next, along(next[k], change, ratio.Quo(float(1, 0), ratio)))
		}
		off = float(0, 0)
		for k := range x {
			if j > 0 {
				apart := float(0, 0).Sub(next[j][k], next[j-1][k])
				if off.Cmp(apart.Abs(apart)) < 0 {
					off = apart
				}
			}
		}
		row = next
	}
	return row[columns-1], off
}

// track is where x comes to from one time to another, at so many times; and by how much that may be wrong. It ends where it is vague.
func (q one) track(from, to *big.Float, x []*big.Float, times int) ([][]*big.Float, *big.Float) {
	h := float(0, 0).Sub(to, from)
	h.Quo(h, float(int64(times), 0))
	all, wrong, now := [][]*big.Float{x}, float(1, 8-digits), float(0, 0).Set(from)
	for range times {
		next, off := q.goes(now, all[len(all)-1], h)
		if next == nil {
			return all, wrong
		}
		more := float(0, 0).Add(wrong, float(0, 0).SetMantExp(off, slack))
		if more.MantExp(nil) > vague {
			return all, wrong
		}
		all, wrong, now = append(all, next), more, float(0, 0).Add(now, h)
	}
	return all, wrong
}

// has tells whether a holds v, as far as v is right.
func has(a api.Ival, v, wrong *big.Float) bool {
	return float(0, 0).Add(v, wrong).Cmp(worth(a.Lo)) >= 0 && float(0, 0).Sub(v, wrong).Cmp(worth(a.Hi)) <= 0
}
