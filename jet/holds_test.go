package jet_test

import (
	"math/big"
	"math/rand/v2"
	"testing"

	"sluiceway/api"
	"sluiceway/jet"
)

// The reference reckons with series of floats of so many bits, which are true to 2^-slack where none of them is above 2^reach. Quotients, roots and powers of e are sums of powers there, not what chapter 9 makes of them.
const (
	digits = 2000
	slack  = 600
	reach  = 90
)

// float is n times 2^e.
func float(n int64, e int) *big.Float {
	z := new(big.Float).SetPrec(digits).SetInt64(n)
	return z.SetMantExp(z, e)
}

// worth is d as a float.
func worth(d api.Dyad) *big.Float {
	z := new(big.Int)
	for i := range d.M {
		z.Lsh(z, 64).Or(z, new(big.Int).SetUint64(d.M[len(d.M)-1-i]))
	}
	if d.Neg {
		z.Neg(z)
	}
	f := new(big.Float).SetPrec(digits).SetInt(z)
	return f.SetMantExp(f, d.E)
}

// point is a number of a: one of its ends, or one between.
func point(r *rand.Rand, a api.Ival) *big.Float {
	lo, part := worth(a.Lo), worth(a.Hi)
	part.Sub(part, lo).Mul(part, float([]int64{0, 1 << 20, r.Int64N(1 << 20)}[r.IntN(3)], -20))
	return lo.Add(lo, part)
}

// points are numbers of these.
func points(r *rand.Rand, these []api.Ival) []*big.Float {
	var all []*big.Float
	for _, a := range these {
		all = append(all, point(r, a))
	}
	return all
}

// flat is a series of n coefficients: a, b and then noughts.
func flat(n int, ab ...*big.Float) []*big.Float {
	for len(ab) < n {
		ab = append(ab, float(0, 0))
	}
	return ab[:n]
}

// each is what op makes of the coefficients of a and b.
func each(a, b []*big.Float, op func(z, x, y *big.Float) *big.Float) []*big.Float {
	var c []*big.Float
	for n := range a {
		c = append(c, op(float(0, 0), a[n], b[n]))
	}
	return c
}

// times is a times b.
func times(a, b []*big.Float) []*big.Float {
	c := flat(len(a))
	for i, x := range a {
		for j, y := range b[:len(b)-i] {
			c[i+j].Add(c[i+j], float(0, 0).Mul(x, y))
		}
	}
	return c
}

// scaled is a times x.
func scaled(a []*big.Float, x *big.Float) []*big.Float {
	return times(a, flat(len(a), x))
}

// powers is the sum of weight(m) times z to the power of m; z has no coefficient 0.
func powers(z []*big.Float, weight func(m int64) *big.Float) []*big.Float {
	all, power := flat(len(z)), flat(len(z), float(1, 0))
	for m := range len(z) {
		all = each(all, scaled(power, weight(int64(m))), (*big.Float).Add)
		power = times(power, z)
	}
	return all
}

// part is a without its coefficient 0, divided by d.
func part(a []*big.Float, d *big.Float) []*big.Float {
	z := scaled(a, float(0, 0).Quo(float(1, 0), d))
	z[0] = float(0, 0)
	return z
}

// inverse is 1 divided by b: of b_0 (1 + z) it is (1 - z + z z ..) / b_0.
func inverse(b []*big.Float) []*big.Float {
	sum := powers(part(b, b[0]), func(m int64) *big.Float { return float(1-m%2*2, 0) })
	return scaled(sum, float(0, 0).Quo(float(1, 0), b[0]))
}

// rooted is the square root of a: of a_0 (1 + z) it is (1 + z/2 - z z/8 ..) times that of a_0.
func rooted(a []*big.Float) []*big.Float {
	if a[0].Sign() == 0 {
		return flat(len(a))
	}
	weight := float(1, 0)
	sum := powers(part(a, a[0]), func(m int64) *big.Float {
		if m > 0 {
			weight.Mul(weight, float(3-2*m, 0)).Quo(weight, float(2*m, 0))
		}
		return weight
	})
	return scaled(sum, float(0, 0).Sqrt(a[0]))
}

// raised is e to the power of a.
func raised(a []*big.Float) []*big.Float {
	term, all := float(1, 0), float(1, 0)
	for m := int64(1); term.Sign() != 0 && term.MantExp(nil) > -digits; m++ {
		term.Mul(term, a[0]).Quo(term, float(m, 0))
		all.Add(all, term)
	}
	weight := float(1, 0)
	sum := powers(part(a, float(1, 0)), func(m int64) *big.Float {
		if m > 0 {
			weight.Quo(weight, float(m, 0))
		}
		return weight
	})
	return scaled(sum, all)
}

// values is what a tape's lines are at a point, up to the first that has no value, which is told, or is vague.
func values(t api.Tape, ks, time []*big.Float, x, p [][]*big.Float) (lines [][]*big.Float, none bool) {
	for i, l := range t.Lines {
		var c []*big.Float
		switch l.Op {
		case api.OConst:
			c = flat(len(time), ks[i])
		case api.OTime:
			c = time
		case api.OState:
			c = x[l.A]
		case api.OPar:
			c = p[l.A]
		default:
			a, b := lines[l.A], lines[l.B]
			if l.Op == api.ODiv && b[0].Sign() == 0 || l.Op == api.OSqrt && (a[0].Sign() < 0 || a[0].Sign() == 0 && len(a) > 1) {
				return lines, true
			}
			if l.Op == api.ODiv && tiny(b[0]) || l.Op == api.OSqrt && tiny(a[0]) && len(a) > 1 {
				return lines, false
			}
			c = result(l.Op, a, b)
		}
		for _, v := range c {
			if v.MantExp(nil) > reach {
				return lines, false
			}
		}
		lines = append(lines, c)
	}
	return lines, false
}

// tiny tells whether x is too small for the reference to divide by.
func tiny(x *big.Float) bool {
	return x.MantExp(nil) < -reach/3
}

// result is what an operation makes of a, and of b where it leans on two.
func result(op int, a, b []*big.Float) []*big.Float {
	switch op {
	case api.OAdd:
		return each(a, b, (*big.Float).Add)
	case api.OSub:
		return each(a, b, (*big.Float).Sub)
	case api.OMul:
		return times(a, b)
	case api.ODiv:
		return times(a, inverse(b))
	case api.ONeg:
		return each(a, flat(len(a)), func(z, x, _ *big.Float) *big.Float { return z.Neg(x) })
	case api.OSqr:
		return times(a, a)
	case api.OSqrt:
		return rooted(a)
	}
	return raised(a)
}

// holds tells whether v is in a, as far as the reference is true.
func holds(a api.Ival, v *big.Float) bool {
	low, high := float(-1, -slack), float(1, -slack)
	return low.Add(v, low).Cmp(worth(a.Hi)) <= 0 && high.Add(v, high).Cmp(worth(a.Lo)) >= 0
}

// held holds a row against the series that it must hold, and counts the coefficients.
func held(t *testing.T, f api.Tape, got []api.Ival, want []*big.Float) int {
	t.Helper()
	for n, v := range want {
		if !holds(got[n], v) {
			t.Fatalf("coefficient %d of %v: %v does not hold %v", n, f, got[n], v)
		}
	}
	return len(want)
}

// near is an interval of numbers that are near to each other, or one alone.
func near(r *rand.Rand) api.Ival {
	lo, wide := r.Int64N(1<<20)-1<<19, r.Int64N(1<<r.IntN(16))
	if r.IntN(2) == 0 {
		wide = 0
	}
	return span(lo, lo+wide, -18-r.IntN(3))
}

// nears is n of them.
func nears(r *rand.Rand, n int) []api.Ival {
	var all []api.Ival
	for range n {
		all = append(all, near(r))
	}
	return all
}

// TestSeriesHolds: of 9.3, each coefficient holds those of what the line's expression is, for all series of the intervals.
func TestSeriesHolds(t *testing.T) {
	r := maker(7)
	tapes, count := 0, 0
	for range 1200 {
		k := r.IntN(8)
		f := grow(r, 1+r.IntN(9), 2, 1, 0, ops(), func() api.Ival { return near(r) })
		f.Outs = all(len(f.Lines))
		time, x, p := nears(r, k+1), [][]api.Ival{nears(r, k+1), nears(r, k+1)}, [][]api.Ival{nears(r, k+1)}
		got, code := jet.Series(f, time, x, p, k, 20+r.IntN(most-19))
		if code != api.OK {
			continue
		}
		tapes++
		for range 2 {
			lines, none := values(f, points(r, constants(f)), points(r, time), [][]*big.Float{points(r, x[0]), points(r, x[1])}, [][]*big.Float{points(r, p[0])})
			if none {
				t.Fatalf("a line of %v has no value, but a series", f)
			}
			for i, want := range lines {
				count += held(t, f, got[i], want)
			}
		}
	}
	if tapes < 400 || count < 10000 {
		t.Errorf("only %d coefficients of %d tapes", count, tapes)
	}
}

// solution is the solution's coefficients 0 to k: the integral of what the derivatives are on it, asked for again and again, each time true to one order more. It is vague, or a line has none, if false.
func solution(f api.Tape, ks []*big.Float, at *big.Float, x, p []*big.Float, k int) ([][]*big.Float, bool) {
	var xs, ps [][]*big.Float
	for _, a := range x {
		xs = append(xs, flat(k+1, a))
	}
	for _, a := range p {
		ps = append(ps, flat(k+1, a))
	}
	for range k {
		lines, _ := values(f, ks, flat(k+1, at, float(1, 0)), xs, ps)
		if len(lines) < len(f.Lines) {
			return nil, false
		}
		for i, line := range f.Outs {
			xs[i] = xs[i][:1:1]
			for n, v := range lines[line][:k] {
				xs[i] = append(xs[i], float(0, 0).Quo(v, float(int64(n+1), 0)))
			}
		}
	}
	return xs, true
}

// TestSolveHolds: of 9.3, the coefficients hold those of each solution that begins in the intervals.
func TestSolveHolds(t *testing.T) {
	r := maker(8)
	systems, count := 0, 0
	for range 700 {
		k := r.IntN(7)
		f := grow(r, 1+r.IntN(7), 2, 1, 2, ops(), func() api.Ival { return near(r) })
		at, x, p := near(r), nears(r, 2), nears(r, 1)
		got, code := jet.Solve(f, at, x, p, k, 20+r.IntN(most-19))
		if code != api.OK {
			continue
		}
		systems++
		for range 2 {
			want, ok := solution(f, points(r, constants(f)), point(r, at), points(r, x), points(r, p), k)
			if !ok {
				continue
			}
			for i := range want {
				count += held(t, f, got[i], want[i])
			}
		}
	}
	if systems < 300 || count < 3000 {
		t.Errorf("only %d coefficients of %d systems", count, systems)
	}
}

// TestKnown: solutions that have names.
func TestKnown(t *testing.T) {
	state, at := line(api.OState, 0, 0), line(api.OTime, 0, 0)
	unit := number(only(1, 0))
	one := float(1, 0)
	for _, c := range []struct {
		name string
		f    []api.Line
		x    []api.Ival
		next func(n int64, c []*big.Float) *big.Float
	}{
		{"e^t", row(state), onlys(1), func(n int64, c []*big.Float) *big.Float { return float(0, 0).Quo(c[n-1], float(n, 0)) }},
		{"1/(1 - t)", row(state, line(api.OSqr, 0, 0)), onlys(1), func(int64, []*big.Float) *big.Float { return one }},
		{"tan t", row(state, line(api.OSqr, 0, 0), unit, line(api.OAdd, 1, 2)), onlys(0), func(n int64, _ []*big.Float) *big.Float {
			tan := [][2]int64{{0, 1}, {1, 1}, {0, 1}, {1, 3}, {0, 1}, {2, 15}, {0, 1}, {17, 315}, {0, 1}, {62, 2835}, {0, 1}, {1382, 155925}, {0, 1}}
			return float(0, 0).Quo(float(tan[n][0], 0), float(tan[n][1], 0))
		}},
		{"log (1 + t)", row(state, line(api.ONeg, 0, 0), line(api.OExp, 1, 0)), onlys(0), func(n int64, _ []*big.Float) *big.Float {
			return float(0, 0).Quo(float(n%2*2-1, 0), float(n, 0))
		}},
		{"the root of 1 + 2 t", row(unit, state, line(api.ODiv, 0, 1)), onlys(1), func(n int64, c []*big.Float) *big.Float {
			// By the binomial weights: c_n is c_(n-1) times (3 - 2n) / n.
			return float(0, 0).Quo(float(0, 0).Mul(c[n-1], float(3-2*n, 0)), float(n, 0))
		}},
		{"e^(-t t)", row(at, state, line(api.OMul, 0, 1), number(only(-2, 0)), line(api.OMul, 3, 2)), onlys(1), func(n int64, c []*big.Float) *big.Float {
			if n%2 == 1 {
				return float(0, 0)
			}
			return float(0, 0).Quo(c[n-2], float(-n/2, 0))
		}},
		{"the square of 1 + t/2", row(state, line(api.OSqrt, 0, 0)), onlys(1), func(n int64, _ []*big.Float) *big.Float {
			return append([]*big.Float{one, one, float(1, -2)}, flat(maxOrder)...)[n]
		}},
	} {
		f := api.Tape{Lines: c.f, Outs: []int{len(c.f) - 1}}
		want := []*big.Float{worth(c.x[0].Lo)}
		for n := int64(1); n <= maxOrder; n++ {
			want = append(want, c.next(n, want))
		}
		for _, bits := range precs {
			// So few bits lead to divisors that hold 0, or to nothing below a root.
			if got, code := jet.Solve(f, api.Ival{}, c.x, nil, maxOrder, bits); code == api.OK {
				held(t, f, got[0], want)
			} else if bits > 3 {
				t.Errorf("%s to %d bits: %d", c.name, bits, code)
			}
		}
	}
}
