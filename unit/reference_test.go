package unit_test

import (
	"math/big"
	"math/rand/v2"
	"slices"

	"sluiceway/api"
)

// The reference knows nothing of intervals: inputs are lines from knot to knot, and from knot to knot it goes on by the midpoint rule, in so many bits; from what that tells with ever more steps it tells what it would with infinitely many.
const (
	digits = 300
	// columns is of how many numbers of steps, and fewColumns where inputs have many knots, near to each other.
	columns, fewColumns = 9, 7
	// slack is how many times more than by its own account it may be wrong, as a power of two.
	slack = 30
	// vague is of which power of two on it is too wrong to hold anything against.
	vague = -56
)

// float is n times 2^e.
func float(n int64, e int) *big.Float {
	z := new(big.Float).SetPrec(digits).SetInt64(n)
	return z.SetMantExp(z, e)
}

// sums are float's.
func plus(a, b *big.Float) *big.Float  { return float(0, 0).Add(a, b) }
func minus(a, b *big.Float) *big.Float { return float(0, 0).Sub(a, b) }
func times(a, b *big.Float) *big.Float { return float(0, 0).Mul(a, b) }
func ratio(a, b *big.Float) *big.Float { return float(0, 0).Quo(a, b) }

// worth is d as a float.
func worth(d api.Dyad) *big.Float {
	z := new(big.Int)
	for _, x := range slices.Backward(d.M) {
		z.Lsh(z, 64).Or(z, new(big.Int).SetUint64(x))
	}
	if d.Neg {
		z.Neg(z)
	}
	f := new(big.Float).SetPrec(digits).SetInt(z)
	return f.SetMantExp(f, d.E)
}

// point is a number of a: one of its ends, or one between.
func point(r *rand.Rand, a api.Ival) *big.Float {
	lo, part := worth(a.Lo), worth(a.Hi)
	part.Sub(part, lo).Mul(part, float([]int64{0, 1 << 20, r.Int64N(1 << 20)}[r.IntN(3)], -20))
	return lo.Add(lo, part)
}

// points are numbers of these.
func points(r *rand.Rand, these []api.Ival) []*big.Float {
	var all []*big.Float
	for _, a := range these {
		all = append(all, point(r, a))
	}
	return all
}

// bent is a number over time: straight from knot to knot.
type bent struct{ at, is []*big.Float }

// when is what it is at a time.
func (b bent) when(t *big.Float) *big.Float {
	k, found := slices.BinarySearchFunc(b.at, t, (*big.Float).Cmp)
	if found {
		return b.is[k]
	}
	part := ratio(minus(t, b.at[k-1]), minus(b.at[k], b.at[k-1]))
	return plus(b.is[k-1], times(part, minus(b.is[k], b.is[k-1])))
}

// both is what is in both of two intervals.
func both(a, b api.Ival) api.Ival {
	if worth(a.Lo).Cmp(worth(b.Lo)) < 0 {
		a.Lo = b.Lo
	}
	if worth(a.Hi).Cmp(worth(b.Hi)) > 0 {
		a.Hi = b.Hi
	}
	return a
}

// course is a continuous input that is in a tube at all times: at a cell's ends it is in both cells, and between it turns as often as is asked for.
func course(r *rand.Rand, u api.Tube, turns int) bent {
	b := bent{at: []*big.Float{worth(u.At[0])}, is: []*big.Float{point(r, u.V[0])}}
	for k, v := range u.V {
		from, to, end := worth(u.At[k]), worth(u.At[k+1]), v
		if k+1 < len(u.V) {
			end = both(v, u.V[k+1])
		}
		for n := range turns {
			part := ratio(float(int64(n+1), 0), float(int64(turns+1), 0))
			b.at, b.is = append(b.at, plus(from, times(part, minus(to, from)))), append(b.is, point(r, v))
		}
		b.at, b.is = append(b.at, to), append(b.is, point(r, end))
	}
	return b
}

// rule is a tape with one number of each constant.
type rule struct {
	api.Tape
	ks []*big.Float
}

// ruled is t with a number of each constant.
func ruled(r *rand.Rand, t api.Tape) rule {
	var ks []api.Ival
	for _, l := range t.Lines {
		ks = append(ks, l.K)
	}
	return rule{t, points(r, ks)}
}

// one is a subsystem with one number of each of its intervals, and one course of each input.
type one struct {
	f, g rule
	p    []*big.Float
	u    []bent
}

// raised is e to the power of x.
func raised(x *big.Float) *big.Float {
	term, all := float(1, 0), float(1, 0)
	for n := int64(1); term.Sign() != 0 && term.MantExp(nil) > -digits; n++ {
		term.Mul(term, x).Quo(term, float(n, 0))
		all.Add(all, term)
	}
	return all
}

// result is what the line i of q is, where those above it are these; none, if it has no value.
func (o one) result(q rule, i int, t *big.Float, x, above []*big.Float) *big.Float {
	l := q.Lines[i]
	switch l.Op {
	case api.OConst:
		return q.ks[i]
	case api.OTime:
		return t
	case api.OState:
		return x[l.A]
	case api.OIn:
		return o.u[l.A].when(t)
	case api.OPar:
		return o.p[l.A]
	}
	a, b, z := above[l.A], above[l.B], float(0, 0)
	switch l.Op {
	case api.OAdd:
		return z.Add(a, b)
	case api.OSub:
		return z.Sub(a, b)
	case api.OMul:
		return z.Mul(a, b)
	case api.ODiv:
		if b.Sign() == 0 {
			return nil
		}
		return z.Quo(a, b)
	case api.ONeg:
		return z.Neg(a)
	case api.OSqr:
		return z.Mul(a, a)
	case api.OSqrt:
		if a.Sign() < 0 {
			return nil
		}
		return z.Sqrt(a)
	}
	if a.Sign() != 0 && a.MantExp(nil) > 8 {
		return nil
	}
	return raised(a)
}

// outs are those of q at a time and a place; none, if there is no value, or too great a one.
func (o one) outs(q rule, t *big.Float, x []*big.Float) []*big.Float {
	var all []*big.Float
	for i := range q.Lines {
		v := o.result(q, i, t, x, all)
		if v == nil || v.Sign() != 0 && v.MantExp(nil) > 150 {
			return nil
		}
		all = append(all, v)
	}
	outs := []*big.Float{}
	for _, line := range q.Outs {
		outs = append(outs, all[line])
	}
	return outs
}

// along is each of x and that of v beside it, so many times.
func along(x, v []*big.Float, times *big.Float) []*big.Float {
	all := make([]*big.Float, len(x))
	for k := range x {
		all[k] = float(0, 0).Mul(v[k], times)
		all[k].Add(all[k], x[k])
	}
	return all
}

// midpoint is where x comes to within h from the time t on, in n steps, an even number; none, if there is no value on the way.
func (o one) midpoint(t *big.Float, x []*big.Float, h *big.Float, n int) []*big.Float {
	size := ratio(h, float(int64(n), 0))
	twice := plus(size, size)
	v := o.outs(o.f, t, x)
	if v == nil {
		return nil
	}
	last, here := x, along(x, v, size)
	for k := range n - 1 {
		now := plus(t, times(size, float(int64(k+1), 0)))
		if v = o.outs(o.f, now, here); v == nil {
			return nil
		}
		last, here = here, along(last, v, twice)
	}
	return here
}

// goes is where x comes to within h from the time t on, and by about how much that is wrong; none, if there is no value on the way. It is told by so many numbers of steps.
func (o one) goes(t *big.Float, x []*big.Float, h *big.Float, columns int) ([]*big.Float, *big.Float) {
	var row [][]*big.Float
	off := float(0, 0)
	for j := range columns {
		next := [][]*big.Float{o.midpoint(t, x, h, 2*j+2)}
		if next[0] == nil {
			return nil, nil
		}
		for k := range row {
			// Errors go down as the squares of the sizes.
			less := ratio(float(int64(j+1), 0), float(int64(j-k), 0))
			less.Mul(less, less).Sub(less, float(1, 0))
			change := along(next[k], row[k], float(-1, 0))
			next = append(next, along(next[k], change, ratio(float(1, 0), less)))
		}
		off = float(0, 0)
		for k := range x {
			if j > 0 {
				apart := minus(next[j][k], next[j-1][k])
				if off.Cmp(apart.Abs(apart)) < 0 {
					off = apart
				}
			}
		}
		row = next
	}
	return row[columns-1], off
}

// track is where x comes to at these times; and by how much that may be wrong. It ends where it is vague.
func (o one) track(these []*big.Float, x []*big.Float, columns int) ([][]*big.Float, *big.Float) {
	all, wrong := [][]*big.Float{x}, float(1, 20-digits)
	for k, t := range these[1:] {
		next, off := o.goes(these[k], all[k], minus(t, these[k]), columns)
		if next == nil {
			return all, wrong
		}
		more := plus(wrong, float(0, 0).SetMantExp(off, slack))
		if more.Sign() != 0 && more.MantExp(nil) > vague {
			return all, wrong
		}
		all, wrong = append(all, next), more
	}
	return all, wrong
}

// has tells whether a holds v, as far as v is right.
func has(a api.Ival, v, wrong *big.Float) bool {
	return plus(v, wrong).Cmp(worth(a.Lo)) >= 0 && minus(v, wrong).Cmp(worth(a.Hi)) <= 0
}
