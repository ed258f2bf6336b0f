package flow_test

import (
	"math/big"
	"math/rand/v2"
	"slices"
	"testing"

	"sluiceway/api"
	"sluiceway/box"
	"sluiceway/dyad"
	"sluiceway/flow"
	"sluiceway/ival"
)

const maxExp = api.MaxExp

// of is n times 2^e.
func of(n int64, e int) api.Dyad {
	d, code := dyad.Of(n, e)
	if code != api.OK {
		panic(code)
	}
	return d
}

// from is from a to b.
func from(a, b api.Dyad) api.Ival {
	return api.Ival{Lo: a, Hi: b}
}

// span is from a to b, both times 2^e.
func span(a, b int64, e int) api.Ival {
	return from(of(a, e), of(b, e))
}

// only is n times 2^e alone.
func only(n int64, e int) api.Ival {
	return span(n, n, e)
}

// row are lines, one behind the other.
func row(lines ...api.Line) []api.Line {
	return lines
}

// line is a line with an A and a B.
func line(op, a, b int) api.Line {
	return api.Line{Op: op, A: a, B: b}
}

// state, par and clock are lines that stand for something.
func state(k int) api.Line { return line(api.OState, k, 0) }
func par(k int) api.Line   { return line(api.OPar, k, 0) }
func clock() api.Line      { return line(api.OTime, 0, 0) }

// number is a line of a constant.
func number(k api.Ival) api.Line {
	return api.Line{Op: api.OConst, K: k}
}

// sys is a tape of these lines, whose outs are the last n ones.
func sys(n int, lines ...api.Line) api.Tape {
	f := api.Tape{Lines: lines}
	for k := range n {
		f.Outs = append(f.Outs, len(lines)-n+k)
	}
	return f
}

// maker makes the same numbers at each run.
func maker(seed uint64) *rand.Rand {
	return rand.New(rand.NewPCG(seed, 0))
}

// posed is what To and Over are asked.
type posed struct {
	f        api.Tape
	x, p     []api.Ival
	from, to api.Dyad
	h        api.Dyad
	bits     int
}

// atEnd and onWay ask.
func (q posed) atEnd() ([]api.Ival, int) {
	return flow.To(q.f, q.x, q.p, q.from, q.to, q.h, q.bits)
}
func (q posed) onWay() ([]api.Ival, int) {
	return flow.Over(q.f, q.x, q.p, q.from, q.to, q.h, q.bits)
}

// with is q with something else.
func (q posed) with(change func(q *posed)) posed {
	q.x, q.p = slices.Clone(q.x), slices.Clone(q.p)
	change(&q)
	return q
}

// both are the answers of To and Over, which must have the same code.
func (q posed) both(t *testing.T) (end, way []api.Ival, code int) {
	t.Helper()
	end, code = q.atEnd()
	way, other := q.onWay()
	if code != other {
		t.Fatalf("of %v To has the code %d, Over %d", q, code, other)
	}
	if code != api.OK && len(end)+len(way) != 0 {
		t.Fatalf("of %v beside %d: %v, %v", q, code, end, way)
	}
	if code == api.OK && (len(end) != len(q.x) || !box.May(end) || !box.Within(end, way)) {
		t.Fatalf("of %v: %v, on the way %v", q, end, way)
	}
	return end, way, code
}

// width is how wide a box is.
func width(t *testing.T, b []api.Ival) *big.Float {
	t.Helper()
	w, code := box.Width(b)
	if code != api.OK {
		t.Fatal(b, code)
	}
	return worth(w)
}

// sums are float's.
func plus(a, b *big.Float) *big.Float  { return float(0, 0).Add(a, b) }
func minus(a, b *big.Float) *big.Float { return float(0, 0).Sub(a, b) }
func times(a, b *big.Float) *big.Float { return float(0, 0).Mul(a, b) }
func ratio(a, b *big.Float) *big.Float { return float(0, 0).Quo(a, b) }
func root(a *big.Float) *big.Float     { return float(0, 0).Sqrt(a) }

// turned are the cosine and the sine of t, by their series.
func turned(t *big.Float) (*big.Float, *big.Float) {
	parts := []*big.Float{float(0, 0), float(0, 0)}
	term := float(1, 0)
	for n := int64(0); n < 200; n++ {
		part := parts[n%2]
		if n%4 < 2 {
			part.Add(part, term)
		} else {
			part.Sub(part, term)
		}
		term = ratio(times(term, t), float(n+1, 0))
	}
	return parts[0], parts[1]
}

// known is a system whose solutions are known: from x on, at which time since the beginning at t, with these parameters.
type known struct {
	name string
	posed
	at func(since, t *big.Float, x, p []*big.Float) []*big.Float
	// narrow is the power of two that To's box is not wider than.
	narrow int
}

// list is a row of floats.
func list(these ...*big.Float) []*big.Float {
	return these
}

// knowns are systems whose solutions are known.
func knowns() []known {
	x, y := state(0), state(1)
	one := number(only(1, 0))
	zero, eighth, sixteenth := api.Dyad{}, of(1, -3), of(1, -4)
	return []known{
		{"x' = 1", posed{sys(1, one), []api.Ival{{}}, nil, zero, of(1, 0), of(1, -2), 60}, func(s, t *big.Float, x, p []*big.Float) []*big.Float {
			return list(plus(x[0], s))
		}, -50},
		{"x' = p", posed{sys(1, par(1)), []api.Ival{span(3, 5, 0)}, []api.Ival{only(9, 0), span(-1, 3, -1)}, of(7, 0), of(8, 0), eighth, 60}, func(s, t *big.Float, x, p []*big.Float) []*big.Float {
			return list(plus(x[0], times(s, p[1])))
		}, 3},
		{"x' = t", posed{sys(1, clock()), []api.Ival{only(3, 0)}, nil, of(-1, 0), of(2, 0), eighth, 60}, func(s, t *big.Float, x, p []*big.Float) []*big.Float {
			return list(plus(x[0], times(s, plus(t, ratio(s, float(2, 0))))))
		}, -48},
		{"x'' = p", posed{api.Tape{Lines: row(y, par(0)), Outs: []int{0, 1}}, []api.Ival{only(1, 0), only(0, 0)}, []api.Ival{only(2, 0)}, of(3, 0), of(7, -1), sixteenth, 60}, func(s, t *big.Float, x, p []*big.Float) []*big.Float {
			return list(plus(plus(x[0], times(s, x[1])), ratio(times(p[0], times(s, s)), float(2, 0))), plus(x[1], times(s, p[0])))
		}, -48},
		{"x' = x", posed{sys(1, x), []api.Ival{span(-1, 2, 0)}, nil, zero, of(2, 0), sixteenth, 60}, func(s, t *big.Float, x, p []*big.Float) []*big.Float {
			return list(times(x[0], raised(s)))
		}, 5},
		{"x' = -x", posed{sys(1, x, line(api.ONeg, 0, 0)), []api.Ival{span(64, 65, -6)}, nil, zero, of(4, 0), sixteenth, 60}, func(s, t *big.Float, x, p []*big.Float) []*big.Float {
			return list(ratio(x[0], raised(s)))
		}, -11},
		{"x' = -x, by smaller steps", posed{sys(1, x, line(api.ONeg, 0, 0)), []api.Ival{span(64, 65, -6)}, nil, zero, of(16, 0), of(4, 0), 60}, func(s, t *big.Float, x, p []*big.Float) []*big.Float {
			return list(ratio(x[0], raised(s)))
		}, -28},
		{"x' = y, y' = -x", posed{api.Tape{Lines: row(x, y, line(api.ONeg, 0, 0)), Outs: []int{1, 2}}, []api.Ival{only(1, 0), only(1, -1)}, nil, zero, of(3, 0), sixteenth, 60}, func(s, t *big.Float, x, p []*big.Float) []*big.Float {
			c, z := turned(s)
			return list(plus(times(c, x[0]), times(z, x[1])), minus(times(c, x[1]), times(z, x[0])))
		}, -45},
		{"x' = x x", posed{sys(1, x, line(api.OSqr, 0, 0)), []api.Ival{only(1, -1)}, nil, zero, of(1, 0), sixteenth, 60}, func(s, t *big.Float, x, p []*big.Float) []*big.Float {
			return list(ratio(x[0], minus(float(1, 0), times(s, x[0]))))
		}, -35},
		{"x' = x - x x", posed{sys(1, x, line(api.OSqr, 0, 0), line(api.OSub, 0, 1)), []api.Ival{span(16, 17, -6)}, nil, zero, of(3, 0), sixteenth, 60}, func(s, t *big.Float, x, p []*big.Float) []*big.Float {
			e := times(x[0], raised(s))
			return list(ratio(e, plus(minus(float(1, 0), x[0]), e)))
		}, -5},
		{"x' = 1 / x", posed{sys(1, x, one, line(api.ODiv, 1, 0)), []api.Ival{span(16, 17, -4)}, nil, zero, of(1, 0), sixteenth, 60}, func(s, t *big.Float, x, p []*big.Float) []*big.Float {
			return list(root(plus(times(x[0], x[0]), plus(s, s))))
		}, -4},
		{"x' = sqrt x", posed{sys(1, x, line(api.OSqrt, 0, 0)), []api.Ival{only(1, 0)}, nil, zero, of(1, 0), eighth, 60}, func(s, t *big.Float, x, p []*big.Float) []*big.Float {
			z := plus(root(x[0]), ratio(s, float(2, 0)))
			return list(times(z, z))
		}, -40},
		{"x' = x t", posed{sys(1, x, clock(), line(api.OMul, 0, 1)), []api.Ival{only(1, 0)}, nil, of(-1, 0), of(1, 0), sixteenth, 60}, func(s, t *big.Float, x, p []*big.Float) []*big.Float {
			return list(times(x[0], raised(times(s, plus(t, ratio(s, float(2, 0)))))))
		}, -40},
		{"x' = exp t, y' = x, z' = y", posed{api.Tape{Lines: row(clock(), line(api.OExp, 0, 0), x, y), Outs: []int{1, 2, 3}}, []api.Ival{only(1, 0), only(1, 0), only(1, 0)}, nil, zero, of(1, 0), eighth, 60}, func(s, t *big.Float, x, p []*big.Float) []*big.Float {
			e := raised(s)
			return list(e, e, e)
		}, -35},
	}
}

// TestKnown: the boxes hold solutions that are known, at the end and on the way, and are not much wider than they must be.
func TestKnown(t *testing.T) {
	t.Parallel()
	r := maker(1)
	for _, q := range knowns() {
		for _, bits := range []int{8, q.bits, 200} {
			q.bits = bits
			end, way, code := q.both(t)
			if code != api.OK {
				t.Fatalf("%s to %d bits: %d", q.name, bits, code)
			}
			if w := width(t, end); bits >= 60 && w.Cmp(float(1, q.narrow)) > 0 {
				t.Errorf("%s to %d bits: To is %v wide", q.name, bits, w)
			}
			for range 12 {
				q.ask(t, r, end, way)
			}
		}
	}
}

// ask holds boxes against a solution.
func (q known) ask(t *testing.T, r *rand.Rand, end, way []api.Ival) {
	t.Helper()
	x, p, begin := points(r, q.x), points(r, q.p), worth(q.from)
	long := minus(worth(q.to), begin)
	wrong := float(1, 40-digits)
	for part := range int64(17) {
		since := times(long, float(part, -4))
		for k, v := range q.at(since, begin, x, p) {
			if !has(way[k], v, wrong) {
				t.Fatalf("%s to %d bits: %v does not hold %v of %v after %v", q.name, q.bits, way[k], v, x, since)
			}
			if part == 16 && !has(end[k], v, wrong) {
				t.Fatalf("%s to %d bits: %v does not hold %v of %v at the end", q.name, q.bits, end[k], v, x)
			}
		}
	}
}

// TestExample is that of the document.
func TestExample(t *testing.T) {
	t.Parallel()
	q := knowns()[0]
	end, way, code := q.both(t)
	if code != api.OK || !ival.Has(end[0], of(1, 0)) || !ival.Has(way[0], of(1, 0)) || !ival.Has(way[0], api.Dyad{}) {
		t.Error(end, way, code)
	}
}

// TestManyParameters: of far more parameters than lines no more is reckoned than by those that lines ask for.
func TestManyParameters(t *testing.T) {
	t.Parallel()
	few := posed{sys(1, par(1), par(0), state(0), line(api.OMul, 0, 2), line(api.OSub, 3, 1)), []api.Ival{span(1, 2, 0)}, []api.Ival{span(1, 3, -2), only(-1, 0)}, api.Dyad{}, of(1, 0), of(1, -5), 60}
	many := few.with(func(q *posed) {
		q.p = slices.Concat(slices.Repeat([]api.Ival{only(1, maxExp)}, 300000), few.p)
		q.f.Lines = slices.Clone(q.f.Lines)
		q.f.Lines[0].A, q.f.Lines[1].A = 300001, 300000
	})
	end, way, code := few.both(t)
	ends, ways, codes := many.both(t)
	if code != api.OK || codes != code || !slices.EqualFunc(end, ends, ival.Same) || !slices.EqualFunc(way, ways, ival.Same) {
		t.Error(end, way, code, ends, ways, codes)
	}
}
