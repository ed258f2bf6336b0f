package tape_test

import (
	"math/big"
	"math/rand/v2"
	"slices"
	"testing"

	"sluiceway/api"
	"sluiceway/tape"
)

const (
	// The reference reckons in units of 2^-units.
	units = 900
	// slack is how many of them, as a power of two, its sums for exp are wrong by at most: their terms are at most 2^92, and there are some hundreds.
	slack = 120
	// sharp is how far apart, as a power of two, its bounds may lie that a line is held against them.
	sharp = 300
	// far is how many bits its bounds may have.
	far = 3000
)

// about is between which two numbers a number lies, in the reference's units.
type about struct{ lo, hi *big.Int }

// scaled is d in the reference's units, rounded down or up.
func scaled(d api.Dyad, up bool) *big.Int {
	z := new(big.Int)
	for _, x := range slices.Backward(d.M) {
		z.Lsh(z, 64).Or(z, new(big.Int).SetUint64(x))
	}
	if d.Neg {
		z.Neg(z)
	}
	return shifted(z, d.E+units, up)
}

// shifted is z times 2^n, rounded down or up.
func shifted(z *big.Int, n int, up bool) *big.Int {
	switch {
	case n >= 0:
		return new(big.Int).Lsh(z, uint(n))
	case up:
		y := new(big.Int).Neg(z)
		return y.Neg(y.Rsh(y, uint(-n)))
	}
	// Rsh rounds down, also below 0.
	return new(big.Int).Rsh(z, uint(-n))
}

// around are the bounds of all these.
func around(lows, highs []*big.Int) about {
	return about{slices.MinFunc(lows, (*big.Int).Cmp), slices.MaxFunc(highs, (*big.Int).Cmp)}
}

// corners are what op makes of each bound of a with each of b.
func corners(a, b about, op func(x, y *big.Int, up bool) *big.Int) about {
	var lows, highs []*big.Int
	for _, x := range []*big.Int{a.lo, a.hi} {
		for _, y := range []*big.Int{b.lo, b.hi} {
			lows, highs = append(lows, op(x, y, false)), append(highs, op(x, y, true))
		}
	}
	return around(lows, highs)
}

// times is x times y.
func times(x, y *big.Int, up bool) *big.Int {
	return shifted(new(big.Int).Mul(x, y), -units, up)
}

// over is x divided by y.
func over(x, y *big.Int, up bool) *big.Int {
	q, m := new(big.Int).DivMod(new(big.Int).Lsh(x, units), y, new(big.Int))
	// What is left is not below 0, so that the quotient lies above q where y is, else below it.
	switch {
	case m.Sign() != 0 && y.Sign() > 0 && up:
		q.Add(q, one)
	case m.Sign() != 0 && y.Sign() < 0 && !up:
		q.Sub(q, one)
	}
	return q
}

// rooted is the square root of x, or that of 0 if x is below it.
func rooted(x *big.Int, up bool) *big.Int {
	if x.Sign() <= 0 {
		return new(big.Int)
	}
	z := new(big.Int).Sqrt(new(big.Int).Lsh(x, units))
	if up {
		z.Add(z, one)
	}
	return z
}

// raised is e^x, by the plain sum of its powers, as far as that is true.
func raised(x *big.Int, up bool) *big.Int {
	unit := new(big.Int).Lsh(one, units)
	term, all := unit, new(big.Int).Set(unit)
	for i := int64(1); term.Sign() != 0; i++ {
		term = new(big.Int).Quo(new(big.Int).Mul(term, x), unit)
		term.Quo(term, big.NewInt(i))
		all.Add(all, term)
	}
	off := new(big.Int).Lsh(one, slack)
	if up {
		return all.Add(all, off)
	}
	return all.Sub(all, off)
}

// fallen are the numbers of a with the other sign.
func fallen(a about) about {
	return about{new(big.Int).Neg(a.hi), new(big.Int).Neg(a.lo)}
}

// together is a and b added.
func together(a, b about) about {
	return about{new(big.Int).Add(a.lo, b.lo), new(big.Int).Add(a.hi, b.hi)}
}

// point is one number of each interval of an Env.
type point struct {
	t       about
	x, u, p []about
}

// chosen is a number of a: one of its ends, or one between.
func chosen(r *rand.Rand, a api.Ival) about {
	lo, hi := scaled(a.Lo, false), scaled(a.Hi, true)
	part := new(big.Int).Sub(hi, lo)
	part.Mul(part, big.NewInt([]int64{0, 1 << 20, r.Int64N(1 << 20)}[r.IntN(3)]))
	z := part.Rsh(part, 20).Add(part, lo)
	return about{z, z}
}

// choose is a number of each interval of e.
func choose(r *rand.Rand, e api.Env) point {
	q := point{t: chosen(r, e.T)}
	for _, a := range e.X {
		q.x = append(q.x, chosen(r, a))
	}
	for _, a := range e.U {
		q.u = append(q.u, chosen(r, a))
	}
	for _, a := range e.P {
		q.p = append(q.p, chosen(r, a))
	}
	return q
}

// worth is about what a line's expression is at a point; no number, if it has no value there.
func worth(l api.Line, vs []about, q point) (about, bool) {
	switch l.Op {
	case api.OConst:
		return about{scaled(l.K.Lo, false), scaled(l.K.Hi, true)}, true
	case api.OTime:
		return q.t, true
	case api.OState:
		return q.x[l.A], true
	case api.OIn:
		return q.u[l.A], true
	case api.OPar:
		return q.p[l.A], true
	}
	a := vs[l.A]
	switch l.Op {
	case api.OAdd:
		return together(a, vs[l.B]), true
	case api.OSub:
		return together(a, fallen(vs[l.B])), true
	case api.OMul:
		return corners(a, vs[l.B], times), true
	case api.ODiv:
		b := vs[l.B]
		if b.lo.Sign() <= 0 && b.hi.Sign() >= 0 {
			return about{}, false
		}
		return corners(a, b, over), true
	case api.ONeg:
		return fallen(a), true
	case api.OSqr:
		return corners(a, a, times), true
	case api.OSqrt:
		return about{rooted(a.lo, false), rooted(a.hi, true)}, a.hi.Sign() >= 0
	}
	return about{raised(a.lo, false), raised(a.hi, true)}, true
}

// vague tells whether v is too far apart, or too great, to hold anything against.
func vague(v about) bool {
	apart := new(big.Int).Sub(v.hi, v.lo)
	return apart.BitLen() > sharp || v.lo.BitLen() > far || v.hi.BitLen() > far
}

// held holds the lines' values against what they are at a point, and counts the lines.
func held(t *testing.T, f api.Tape, got []api.Ival, q point) int {
	t.Helper()
	var vs []about
	for i, l := range f.Lines {
		v, ok := worth(l, vs, q)
		if !ok {
			// The values' divisors hold no 0, and their roots are of nothing below it: so the line has a value.
			if b := vs[l.A]; l.Op == api.OSqrt || vs[l.B].lo.Sign() == 0 && vs[l.B].hi.Sign() == 0 {
				t.Fatalf("line %d of %v has no value of %v", i, f, b)
			}
			return i
		}
		if vague(v) {
			return i
		}
		if scaled(got[i].Lo, false).Cmp(v.hi) > 0 || scaled(got[i].Hi, true).Cmp(v.lo) < 0 {
			t.Fatalf("line %d of %v: %v does not hold what it is at %v", i, f, got[i], q)
		}
		vs = append(vs, v)
	}
	return len(f.Lines)
}

// near is an interval of numbers that are near to each other.
func near(r *rand.Rand) api.Ival {
	lo, wide := r.Int64N(1<<20)-1<<19, r.Int64N(1<<r.IntN(18))
	return span(lo, lo+wide, -17-r.IntN(3))
}

// TestHolds: of 8.3 and T1, each line's value, and each out's, holds what its expression is for all numbers of the intervals.
func TestHolds(t *testing.T) {
	r := maker(6)
	lines, tapes := 0, 0
	for range 1500 {
		s := size(1+r.IntN(3), 1+r.IntN(3), 1+r.IntN(3))
		f := grow(r, 1+r.IntN(16), s, func() api.Ival {
			k := made(r)
			return from(k, k)
		})
		e := api.Env{T: near(r), X: []api.Ival{near(r), near(r), near(r)}, U: []api.Ival{near(r), near(r), near(r)}, P: []api.Ival{near(r), near(r), near(r)}}
		p := 1 + r.IntN(most)
		got, code := tape.Lines(f, e, p)
		if code != api.OK {
			continue
		}
		tapes++
		for range 4 {
			lines += held(t, f, got, choose(r, e))
		}
		outs, code := tape.Eval(f, e, p)
		for k, line := range f.Outs {
			if code != api.OK || !equal(outs[k], got[line]) {
				t.Fatalf("out %d of %v: %v; want %v", k, f, outs[k], got[line])
			}
		}
	}
	if tapes < 500 || lines < 8000 {
		t.Errorf("only %d lines of %d tapes", lines, tapes)
	}
}
