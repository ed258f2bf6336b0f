package slope_test

import (
	"math/big"
	"math/rand/v2"
	"slices"
	"testing"

	"sluiceway/api"
	"sluiceway/slope"
)

// The reference knows no rule of derivatives: it reckons lines with floats of so many bits, at two points that are 2^(1-step) apart, and divides by that. So it is true to 2^-slack where half the step tells the same; none of its lines is above 2^reach.
const (
	digits = 1600
	step   = 300
	slack  = 400
	reach  = 90
)

// float is n times 2^e.
func float(n int64, e int) *big.Float {
	z := new(big.Float).SetPrec(digits).SetInt64(n)
	return z.SetMantExp(z, e)
}

// worth is d as a float.
func worth(d api.Dyad) *big.Float {
	z := new(big.Int)
	for _, x := range slices.Backward(d.M) {
		z.Lsh(z, 64).Or(z, new(big.Int).SetUint64(x))
	}
	if d.Neg {
		z.Neg(z)
	}
	f := new(big.Float).SetPrec(digits).SetInt(z)
	return f.SetMantExp(f, d.E)
}

// point is a number of a: one of its ends, or one between.
func point(r *rand.Rand, a api.Ival) *big.Float {
	lo, part := worth(a.Lo), worth(a.Hi)
	part.Sub(part, lo).Mul(part, float([]int64{0, 1 << 20, r.Int64N(1 << 20)}[r.IntN(3)], -20))
	return lo.Add(lo, part)
}

// place is one number of each interval of a tape's constants and of an Env.
type place struct {
	t           *big.Float
	ks, x, u, p []*big.Float
}

// points are numbers of these.
func points(r *rand.Rand, these []api.Ival) []*big.Float {
	var all []*big.Float
	for _, a := range these {
		all = append(all, point(r, a))
	}
	return all
}

// choose is a number of each.
func choose(r *rand.Rand, f api.Tape, e api.Env) place {
	var ks []api.Ival
	for _, l := range f.Lines {
		ks = append(ks, l.K)
	}
	return place{point(r, e.T), points(r, ks), points(r, e.X), points(r, e.U), points(r, e.P)}
}

// beside is q with n times 2^e added to a state.
func (q place) beside(state int, n int64, e int) place {
	q.x = slices.Clone(q.x)
	q.x[state] = float(0, 0).Add(q.x[state], float(n, e))
	return q
}

// raised is e to the power of x.
func raised(x *big.Float) *big.Float {
	term, all := float(1, 0), float(1, 0)
	for n := int64(1); term.Sign() != 0 && term.MantExp(nil) > -digits; n++ {
		term.Mul(term, x).Quo(term, float(n, 0))
		all.Add(all, term)
	}
	return all
}

// result is what a line is at a place, where the lines above it are these; none, if it has no value there, or a vague one.
func result(i int, l api.Line, above []*big.Float, q place) *big.Float {
	switch l.Op {
	case api.OConst:
		return q.ks[i]
	case api.OTime:
		return q.t
	case api.OState:
		return q.x[l.A]
	case api.OIn:
		return q.u[l.A]
	case api.OPar:
		return q.p[l.A]
	}
	a, b, z := above[l.A], above[l.B], float(0, 0)
	switch l.Op {
	case api.OAdd:
		return z.Add(a, b)
	case api.OSub:
		return z.Sub(a, b)
	case api.OMul:
		return z.Mul(a, b)
	case api.ODiv:
		if b.Sign() == 0 || b.MantExp(nil) < -reach {
			return nil
		}
		return z.Quo(a, b)
	case api.ONeg:
		return z.Neg(a)
	case api.OSqr:
		return z.Mul(a, a)
	case api.OSqrt:
		if a.Sign() <= 0 || a.MantExp(nil) < -reach {
			return nil
		}
		return z.Sqrt(a)
	}
	return raised(a)
}

// values are the lines at a place, up to the first that has no value, or is above the reach.
func values(f api.Tape, q place) []*big.Float {
	var all []*big.Float
	for i, l := range f.Lines {
		v := result(i, l, all, q)
		if v == nil || v.MantExp(nil) > reach {
			break
		}
		all = append(all, v)
	}
	return all
}

// quotients are about the lines' derivatives by a state at a place, from 2^e on both sides of it.
func quotients(f api.Tape, q place, state, e int) []*big.Float {
	high, low := values(f, q.beside(state, 1, e)), values(f, q.beside(state, -1, e))
	var all []*big.Float
	for i := range min(len(high), len(low)) {
		d := float(0, 0).Sub(high[i], low[i])
		all = append(all, d.Mul(d, float(1, -e-1)))
	}
	return all
}

// holds tells whether v is in a, as far as the reference is true.
func holds(a api.Ival, v *big.Float) bool {
	low, high := float(-1, -slack), float(1, -slack)
	return low.Add(v, low).Cmp(worth(a.Hi)) <= 0 && high.Add(v, high).Cmp(worth(a.Lo)) >= 0
}

// held holds values and derivatives of all lines against what they are at a place, and counts the derivatives.
func held(t *testing.T, f api.Tape, vals []api.Ival, slopes [][]api.Ival, q place) int {
	t.Helper()
	for i, v := range values(f, q) {
		if !holds(vals[i], v) {
			t.Fatalf("line %d of %v: %v does not hold %v", i, f, vals[i], v)
		}
	}
	count := 0
	for state := range q.x {
		wide, fine := quotients(f, q, state, -step), quotients(f, q, state, -step-1)
		for i := range min(len(wide), len(fine)) {
			if apart := float(0, 0).Sub(wide[i], fine[i]); apart.Sign() != 0 && apart.MantExp(nil) > -slack {
				continue
			}
			count++
			if !holds(slopes[i][state], fine[i]) {
				t.Fatalf("line %d of %v by the state %d: %v does not hold %v", i, f, state, slopes[i][state], fine[i])
			}
		}
	}
	return count
}

// near is an interval of numbers that are near to each other, or one alone.
func near(r *rand.Rand) api.Ival {
	lo, wide := r.Int64N(1<<20)-1<<19, r.Int64N(1<<r.IntN(18))
	if r.IntN(3) == 0 {
		wide = 0
	}
	return span(lo, lo+wide, -17-r.IntN(3))
}

// nears has such intervals alone, of two states, an input and a parameter.
func nears(r *rand.Rand) api.Env {
	return api.Env{T: near(r), X: []api.Ival{near(r), near(r)}, U: []api.Ival{near(r)}, P: []api.Ival{near(r)}}
}

// TestHolds: of 10.2 and T1, each derivative holds those of what the line's expression is, at all places of the box.
func TestHolds(t *testing.T) {
	r := maker(5)
	tapes, count := 0, 0
	for range 1200 {
		f := grow(r, 1+r.IntN(12), 2, 1, 1, 0, ops(), func() api.Ival { return near(r) })
		f.Outs = all(len(f.Lines))
		e := nears(r)
		vals, slopes, code := slope.Grad(f, e, precision(r))
		if code != api.OK {
			continue
		}
		tapes++
		for range 3 {
			count += held(t, f, vals, slopes, choose(r, f, e))
		}
	}
	if tapes < 800 || count < 20000 {
		t.Errorf("only %d derivatives of %d tapes", count, tapes)
	}
}

// TestChange: by the mean value a line changes, from one place of the box to another, as some of its derivatives say.
func TestChange(t *testing.T) {
	r := maker(6)
	count := 0
	for range 3000 {
		f := grow(r, 2+r.IntN(8), 2, 1, 1, 0, ops(), func() api.Ival { return near(r) })
		f.Outs = all(len(f.Lines))
		e := nears(r)
		_, slopes, code := slope.Grad(f, e, precision(r))
		if code != api.OK {
			continue
		}
		q := choose(r, f, e)
		before, old := values(f, q), q.x
		q.x = points(r, e.X)
		behind := values(f, q)
		for i := range min(len(before), len(behind)) {
			low, high := float(0, 0), float(0, 0)
			for state, a := range slopes[i] {
				by := float(0, 0).Sub(q.x[state], old[state])
				ends := []*big.Float{float(0, 0).Mul(by, worth(a.Lo)), float(0, 0).Mul(by, worth(a.Hi))}
				low.Add(low, slices.MinFunc(ends, (*big.Float).Cmp))
				high.Add(high, slices.MaxFunc(ends, (*big.Float).Cmp))
			}
			change := float(0, 0).Sub(behind[i], before[i])
			if low.Sub(low, float(1, -slack)).Cmp(change) > 0 || high.Add(high, float(1, -slack)).Cmp(change) < 0 {
				t.Fatalf("line %d of %v changes by %v from %v to %v, with the derivatives %v", i, f, change, old, q.x, slopes[i])
			}
			count++
		}
	}
	if count < 5000 {
		t.Errorf("only %d changes", count)
	}
}
