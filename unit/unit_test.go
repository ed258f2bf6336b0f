package unit_test

import (
	"math/big"
	"math/rand/v2"
	"slices"
	"testing"

	"sluiceway/api"
	"sluiceway/box"
	"sluiceway/dyad"
	"sluiceway/ival"
	"sluiceway/round"
	"sluiceway/tube"
	"sluiceway/unit"
)

const maxExp = api.MaxExp

// exactly is what a call that must have no error answers.
func exactly[T any](answer T, code int) T {
	if code != api.OK {
		panic(code)
	}
	return answer
}

// of is n times 2^e.
func of(n int64, e int) api.Dyad {
	return exactly(dyad.Of(n, e))
}

// from is from a to b.
func from(a, b api.Dyad) api.Ival {
	return api.Ival{Lo: a, Hi: b}
}

// span is from a to b, both times 2^e.
func span(a, b int64, e int) api.Ival {
	return from(of(a, e), of(b, e))
}

// only is n times 2^e alone.
func only(n int64, e int) api.Ival {
	return span(n, n, e)
}

// row are these, one behind the other.
func row[T any](these ...T) []T {
	return these
}

// line is a line with an A and a B.
func line(op, a, b int) api.Line {
	return api.Line{Op: op, A: a, B: b}
}

// state, in, par and clock are lines that stand for something.
func state(k int) api.Line { return line(api.OState, k, 0) }
func in(k int) api.Line    { return line(api.OIn, k, 0) }
func par(k int) api.Line   { return line(api.OPar, k, 0) }
func clock() api.Line      { return line(api.OTime, 0, 0) }

// number is a line of a constant.
func number(k api.Ival) api.Line {
	return api.Line{Op: api.OConst, K: k}
}

// sys is a tape of these lines, whose outs are the last n ones.
func sys(n int, lines ...api.Line) api.Tape {
	f := api.Tape{Lines: lines}
	for k := range n {
		f.Outs = append(f.Outs, len(lines)-n+k)
	}
	return f
}

// cells is a tube from t on of cells that are h long, with these values.
func cells(t, h api.Dyad, these ...api.Ival) api.Tube {
	u := api.Tube{At: row(t), V: these}
	for k := range these {
		u.At = append(u.At, exactly(dyad.Add(u.At[k], h)))
	}
	return u
}

// maker makes the same numbers at each run.
func maker(seed uint64) *rand.Rand {
	return rand.New(rand.NewPCG(seed, 0))
}

// posed is what Run is asked.
type posed struct {
	f, g api.Tape
	x, p []api.Ival
	u    []api.Tube
	t, h api.Dyad
	bits int
	// fast is whether the reference must go by small steps.
	fast bool
}

// ask asks.
func (q posed) ask() ([]api.Ival, []api.Tube, int) {
	return unit.Run(q.f, q.g, q.x, q.p, q.u, q.t, q.h, q.bits)
}

// with is q with something else.
func (q posed) with(change func(q *posed)) posed {
	q.x, q.p, q.u = slices.Clone(q.x), slices.Clone(q.p), slices.Clone(q.u)
	change(&q)
	return q
}

// run asks, and holds the answer against what all answers have in common.
func (q posed) run(t *testing.T) (end []api.Ival, outs []api.Tube, code int) {
	t.Helper()
	end, outs, code = q.ask()
	if code != api.OK {
		if len(end)+len(outs) != 0 {
			t.Fatalf("of %v beside %d: %v, %v", q, code, end, outs)
		}
		return nil, nil, code
	}
	if len(end) != len(q.x) || !box.May(end) || len(outs) != len(q.g.Outs) {
		t.Fatalf("of %v: %v, %v", q, end, outs)
	}
	for _, y := range outs {
		if !tube.May(y) || !dyad.Same(y.At[0], q.t) || !dyad.Same(y.At[len(y.V)], exactly(dyad.Add(q.t, q.h))) {
			t.Fatalf("of %v a tube is %v", q, y)
		}
	}
	return end, outs, code
}

// held holds an answer against one way of the state, and counts the times at which it knows it: in 16 parts at least, or in 1024.
func held(t *testing.T, r *rand.Rand, q posed, end []api.Ival, outs []api.Tube) int {
	t.Helper()
	parts := 4
	if q.fast {
		parts = 10
	}
	o := one{f: ruled(r, q.f), g: ruled(r, q.g), p: points(r, q.p)}
	var knots []*big.Float
	for k := range int64(1<<parts + 1) {
		knots = append(knots, plus(worth(q.t), times(worth(q.h), float(k, -parts))))
	}
	for _, u := range q.u {
		o.u = append(o.u, course(r, u, r.IntN(3)))
		knots = slices.Concat(knots, o.u[len(o.u)-1].at)
	}
	for _, y := range outs {
		for _, d := range y.At {
			knots = append(knots, worth(d))
		}
	}
	slices.SortFunc(knots, (*big.Float).Cmp)
	knots = slices.CompactFunc(knots, func(a, b *big.Float) bool { return a.Cmp(b) == 0 })
	x, columns := points(r, q.x), columns
	if len(knots) > 100 && !q.fast {
		columns = fewColumns
	}
	track, wrong := o.track(knots, x, columns)
	for i, now := range track {
		o.inCells(t, q, outs, knots[i], now, wrong)
	}
	if len(track) < len(knots) {
		return len(track) - 1
	}
	for k, v := range track[len(track)-1] {
		if !has(end[k], v, wrong) {
			t.Fatalf("of %v: %v does not hold the state %d of %v, %v", q, end[k], k, x, v)
		}
	}
	return len(track)
}

// inCells holds tubes against what the outs are at a time.
func (o one) inCells(t *testing.T, q posed, outs []api.Tube, at *big.Float, x []*big.Float, wrong *big.Float) {
	t.Helper()
	ys := o.outs(o.g, at, x)
	if wrong = float(0, 0).SetMantExp(wrong, slack); ys == nil || wrong.MantExp(nil) > vague {
		return
	}
	for k, y := range outs {
		for i, v := range y.V {
			if worth(y.At[i]).Cmp(at) <= 0 && worth(y.At[i+1]).Cmp(at) >= 0 && !has(v, ys[k], wrong) {
				t.Fatalf("of %v: at %v %v does not hold the out %d, %v", q, at, v, k, ys[k])
			}
		}
	}
}

// wide is about how wide something is.
func wide(w api.Dyad, code int) float64 {
	about, _ := worth(exactly(w, code)).Float64()
	return about
}

// known is a subsystem, and how wide what is answered of it may be: its box, and its first signal.
type known struct {
	name string
	posed
	box, signal float64
}

// knowns are subsystems of many kinds.
func knowns() []known {
	x, y, one := state(0), state(1), number(only(1, 0))
	zero, eighth, sixteenth := api.Dyad{}, of(1, -3), of(1, -4)
	nothing := api.Tape{}
	first := sys(1, x)
	still := func(a, b int64, e int) []api.Tube { return row(cells(zero, of(1, 0), span(a, b, e))) }
	stairs := cells(zero, of(1, -3), span(0, 1, 0), span(1, 2, 0), span(2, 3, 0), span(3, 4, 0), span(2, 4, 0), span(0, 2, 0), span(-4, 0, 0), span(-4, 8, -1))
	return []known{
		{"x' = u", posed{sys(1, in(0)), first, row(only(0, 0)), nil, still(1, 2, 0), zero, of(1, 0), 60, false}, 1, 1.0625},
		{"x' = u, later", posed{sys(1, in(0)), first, row(span(3, 5, 0)), nil, row(cells(of(7, 0), of(1, 0), span(1, 2, 0))), of(7, 0), of(1, 0), 60, false}, 3, 3.0625},
		{"x' = u, up and down", posed{sys(1, in(0)), sys(2, x, in(0)), row(only(0, 0)), nil, row(stairs), zero, of(1, 0), 60, false}, 2.25, 2.25},
		{"x' = 1", posed{sys(1, one), first, row(only(0, 0)), nil, nil, zero, of(1, 0), 60, false}, 0, 0.0625},
		{"x' = p", posed{sys(1, par(1)), first, row(only(0, 0)), row(only(9, 0), span(-1, 3, -1)), nil, zero, of(1, 0), 60, false}, 2, 2},
		{"x' = -x + u", posed{sys(1, x, in(0), line(api.OSub, 1, 0)), first, row(span(64, 65, -6)), nil, still(0, 1, -2), zero, of(1, 0), 60, false}, 0.186, 0.204},
		{"x' = -x, for long", posed{sys(1, x, line(api.ONeg, 0, 0)), first, row(span(64, 65, -6)), nil, nil, zero, of(8, 0), 60, true}, 0.00086, 0.516},
		{"x' = -1000 x", posed{sys(1, x, number(only(-1000, 0)), line(api.OMul, 0, 1)), first, row(only(1, 0)), nil, nil, zero, sixteenth, 60, true}, 6e-25, 1},
		{"x' = t", posed{sys(1, clock()), sys(1, x, clock(), line(api.OMul, 0, 1)), row(only(3, 0)), nil, nil, of(-1, 0), of(2, 0), 60, false}, 0.25, 0.706},
		{"x' = y, y' = -x + u", posed{api.Tape{Lines: row(y, x, in(0), line(api.OSub, 2, 1)), Outs: row(0, 3)}, first, row(only(1, 0), only(0, 0)), nil, still(31, 33, -6), zero, of(1, 0), 60, false}, 0.069, 0.078},
		{"a row", posed{api.Tape{Lines: row(state(1), state(2), state(3), state(4), state(5), one), Outs: row(0, 1, 2, 3, 4, 5)}, first, slices.Repeat(row(only(0, 0)), 6), nil, nil, zero, of(1, -1), 60, false}, 0.016, 4.7e-5},
		{"x' = x u", posed{sys(1, x, in(0), line(api.OMul, 0, 1)), first, row(only(1, 0)), nil, still(-1, 1, -1), zero, of(1, 0), 60, false}, 1.062, 1.062},
		{"x' = x x", posed{sys(1, x, line(api.OSqr, 0, 0)), first, row(only(1, -1)), nil, nil, zero, of(1, 0), 60, false}, 0.089, 0.141},
		{"x' = u / x", posed{sys(1, in(0), x, line(api.ODiv, 0, 1)), first, row(span(16, 17, -4)), nil, still(1, 1, 0), zero, eighth, 60, false}, 0.0635, 0.071},
		{"x' = sqrt x", posed{sys(1, x, line(api.OSqrt, 0, 0)), sys(1, x, line(api.OExp, 0, 0)), row(only(1, 0)), nil, nil, zero, of(1, -1), 60, false}, 0.009, 0.222},
		{"a ring", posed{ring(), first, slices.Repeat(row(only(1, 0), only(2, 0)), 3), nil, nil, zero, of(1, -2), 60, true}, 0.34, 0.48},
		{"a cliff below", posed{cliff(-1), first, row(only(0, 0)), nil, nil, zero, sixteenth, 60, true}, 0.005, 0.005},
		{"a cliff above", posed{cliff(1), first, row(only(0, 0)), nil, nil, zero, sixteenth, 60, true}, 0.005, 0.005},
		{"x' = 0, y' = 1", posed{api.Tape{Lines: row(number(only(0, 0)), one), Outs: row(0, 1)}, first, row(only(0, 0), only(0, 0)), nil, nil, zero, of(1, 0), 60, false}, 0, 0},
		{"x' = exp -x", posed{sys(1, x, line(api.ONeg, 0, 0), line(api.OExp, 1, 0)), nothing, row(only(0, 0)), nil, nil, zero, of(1, 0), 60, false}, 0.022, 0},
	}
}

// cliff is x' = n / (1 + the 16th power of 307 x): from 0 it goes as fast as n, up to some 1/300, and hardly any further. So within 1/256 a side seems to be fast near to where it begins, and to be slow further on.
func cliff(n int64) api.Tape {
	return sys(1, state(0), number(only(307, 0)), line(api.OMul, 0, 1), line(api.OSqr, 2, 0), line(api.OSqr, 3, 0), line(api.OSqr, 4, 0), line(api.OSqr, 5, 0), number(only(1, 0)), line(api.OAdd, 6, 7), number(only(n, 0)), line(api.ODiv, 9, 8))
}

// ring is a system of six states, each of which is drawn to the next one fast.
func ring() api.Tape {
	var f api.Tape
	for k := range 6 {
		f.Lines = append(f.Lines, state(k))
	}
	f.Lines = append(f.Lines, number(only(-40, 0)))
	for k := range 6 {
		n := len(f.Lines)
		f.Lines = append(f.Lines, line(api.OSub, k, (k+1)%6), line(api.OMul, n, 6))
		f.Outs = append(f.Outs, n+1)
	}
	return f
}

// TestGreat: also numbers that are far greater than others near them may be told.
func TestGreat(t *testing.T) {
	t.Parallel()
	f := api.Tape{Lines: row(state(0), line(api.ONeg, 0, 0), number(api.Ival{})), Outs: row(1, 2, 1)}
	q := posed{f: f, g: sys(1, state(1)), x: row(only(1, 5000), only(1, 9000), api.Ival{}), h: of(1, 0), bits: 60}
	end, outs, code := q.run(t)
	// 2^5000 divided by e is about 3013.67 times 2^4987; the second state stays, and the third is drawn down by what goes of the first.
	if code != api.OK || !ival.Has(end[0], of(3013, 4987)) || !ival.Has(end[0], of(3014, 4987)) || dyad.Cmp(exactly(box.Width(end[:1])), of(1, 4995)) > 0 {
		t.Fatal(end, code)
	}
	if !ival.Same(end[1], only(1, 9000)) || !ival.Same(exactly(tube.Over(outs[0], q.t, q.h)), only(1, 9000)) {
		t.Error(end, outs)
	}
}

// TestKnown: of subsystems of many kinds all ways of the state are held, and the answers are not much wider than they must be.
func TestKnown(t *testing.T) {
	t.Parallel()
	for _, q := range knowns() {
		t.Run(q.name, func(t *testing.T) {
			t.Parallel()
			r := maker(1)
			for _, bits := range []int{8, q.bits, 200} {
				q.bits = bits
				if q.u != nil {
					q.u = slices.Clone(q.u)
					for k, u := range q.u {
						q.u[k] = exactly(tube.Cut(u, q.t, exactly(dyad.Add(q.t, q.h))))
					}
				}
				end, outs, code := q.run(t)
				if code != api.OK {
					t.Fatalf("to %d bits: %d", bits, code)
				}
				if w := wide(box.Width(end)); bits > 8 && w > q.box {
					t.Errorf("to %d bits it is %v wide", bits, w)
				}
				if len(outs) > 0 && bits > 8 {
					if w := wide(tube.Width(outs[0])); w > q.signal {
						t.Errorf("to %d bits a signal is %v wide", bits, w)
					}
				}
				for n := 0; n < 4 && (n < 1 || !q.fast); n++ {
					if held(t, r, q.posed, end, outs) == 0 {
						t.Error("nothing to hold it against")
					}
				}
			}
		})
	}
}

// TestExample is that of the document: exact, where there is nothing to round.
func TestExample(t *testing.T) {
	t.Parallel()
	q := knowns()[0]
	end, outs, code := q.run(t)
	if code != api.OK || !ival.Same(end[0], span(1, 2, 0)) {
		t.Fatal(end, code)
	}
	for k := range int64(17) {
		v := exactly(tube.At(outs[0], of(k, -4)))
		if !ival.Has(v, of(k, -4)) || !ival.Has(v, of(2*k, -4)) {
			t.Errorf("at %d/16: %v", k, v)
		}
	}
}

// TestBits: an answer has no more bits than are asked for; rounding to few of them at each of many steps doesn't make it much wider.
func TestBits(t *testing.T) {
	t.Parallel()
	for bits := 8; bits <= 200; bits++ {
		q := posed{f: sys(1, state(0), line(api.ONeg, 0, 0)), g: sys(1, state(0)), x: row(only(1, 0)), h: of(1, -4), bits: bits}
		end, outs, code := q.run(t)
		if code != api.OK || wide(box.Width(end)) > 0.01 {
			t.Fatal(bits, end, code)
		}
		for _, a := range slices.Concat(end, outs[0].V) {
			if round.Bits(a.Lo) > bits || round.Bits(a.Hi) > bits {
				t.Fatalf("to %d bits: %v", bits, a)
			}
		}
	}
}

// TestSameTwice: the same arguments have the same answers.
func TestSameTwice(t *testing.T) {
	t.Parallel()
	r := maker(2)
	for range 20 {
		q := asked(r)
		end, outs, code := q.run(t)
		again, others, same := q.run(t)
		if code != same || !slices.EqualFunc(end, again, ival.Same) || !slices.EqualFunc(outs, others, tube.Same) {
			t.Fatalf("of %v: %v, %v, %d, then %v, %v, %d", q, end, outs, code, again, others, same)
		}
	}
}

// TestMany: of far more inputs and parameters than lines no more is reckoned than by those that lines ask for.
func TestMany(t *testing.T) {
	t.Parallel()
	few := posed{sys(1, par(1), in(1), state(0), line(api.OMul, 0, 2), par(0), line(api.OAdd, 3, 4), line(api.OSub, 5, 1)), sys(2, in(0), par(1)), row(span(1, 2, 0)), row(span(1, 3, -2), only(-1, 0)), row(cells(of(0, 0), of(1, 0), span(1, 2, -1)), cells(of(0, 0), of(1, 0), span(-1, 1, -3))), api.Dyad{}, of(1, 0), 60, false}
	many := few.with(func(q *posed) {
		q.p = slices.Concat(slices.Repeat(row(only(1, maxExp)), 300000), few.p)
		q.u = slices.Concat(slices.Repeat(row(cells(of(0, 0), of(1, -6), slices.Repeat(row(only(1, maxExp)), 64)...)), 2000), few.u)
		q.f.Lines, q.g.Lines = slices.Clone(q.f.Lines), slices.Clone(q.g.Lines)
		for _, l := range []*api.Line{&q.f.Lines[0], &q.f.Lines[1], &q.f.Lines[4], &q.g.Lines[0], &q.g.Lines[1]} {
			if l.A += 300000; l.Op == api.OIn {
				l.A -= 298000
			}
		}
	})
	end, outs, code := few.run(t)
	ends, others, codes := many.run(t)
	if code != api.OK || codes != code || !slices.EqualFunc(end, ends, ival.Same) || !slices.EqualFunc(outs, others, tube.Same) {
		t.Error(end, outs, code, ends, others, codes)
	}
}
