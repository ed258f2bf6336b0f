package unit_test

import (
	"math/rand/v2"
	"slices"
	"testing"

	"sluiceway/api"
	"sluiceway/box"
	"sluiceway/dyad"
	"sluiceway/ival"
	"sluiceway/tape"
	"sluiceway/tube"
)

// within tells whether a is from -n times 2^e to n times 2^e.
func within(a api.Ival, n int64, e int) bool {
	return ival.Within(a, span(-n, n, e))
}

// wider is x with 1/2 more on all sides.
func wider(x []api.Ival) []api.Ival {
	var all []api.Ival
	for _, a := range x {
		all = append(all, exactly(ival.Inflate(a, of(1, -1))))
	}
	return all
}

// around is what f and g may ask for on the box that is 1/2 greater, for all the time and the whole tubes.
func (q posed) around() api.Env {
	e := api.Env{T: from(q.t, exactly(dyad.Add(q.t, q.h))), X: wider(q.x), P: q.p}
	for _, u := range q.u {
		e.U = append(e.U, exactly(tube.Over(u, e.T.Lo, e.T.Hi)))
	}
	return e
}

// promised tells whether 14.1 promises that there is no error: what it asks for, word by word, beside that all may be.
func (q posed) promised() bool {
	all := slices.Concat(q.x, q.p, row(from(q.t, q.t)))
	for _, u := range q.u {
		if len(u.V) > 16 {
			return false
		}
		all = append(all, u.V...)
	}
	if slices.ContainsFunc(all, func(a api.Ival) bool { return !within(a, 1, 2) }) {
		return false
	}
	if q.bits < 40 || dyad.Cmp(exactly(box.Width(q.x)), of(1, -6)) > 0 || dyad.Cmp(q.h, of(1, -4)) > 0 {
		return false
	}
	rates, code := tape.Eval(q.f, q.around(), q.bits)
	_, other := tape.Eval(q.g, q.around(), q.bits)
	return code == api.OK && other == api.OK && !slices.ContainsFunc(rates, func(a api.Ival) bool { return !within(a, 1, 0) })
}

// kept holds what is promised against what is answered.
func (q posed) kept(t *testing.T) (end []api.Ival, outs []api.Tube) {
	t.Helper()
	end, outs, code := q.run(t)
	if code != api.OK {
		t.Fatalf("of %v: %d", q, code)
	}
	if w := exactly(box.Width(end)); dyad.Cmp(w, of(1, -2)) > 0 {
		t.Fatalf("of %v: %v is %v wide", q, end, w)
	}
	values := exactly(tape.Eval(q.g, q.around(), q.bits))
	for k, y := range outs {
		if !ival.Within(exactly(tube.Over(y, y.At[0], y.At[len(y.V)])), values[k]) {
			t.Fatalf("of %v: %v is not within %v", q, y, values[k])
		}
	}
	return end, outs
}

// small are n intervals from -4 to 4, at most 2^-6 wide; some at the edges.
func small(r *rand.Rand, n int) []api.Ival {
	var all []api.Ival
	for range n {
		wide := []int64{0, 1 << 10, r.Int64N(1<<10 + 1)}[r.IntN(3)]
		lo := []int64{-4 << 16, 4<<16 - wide, 0, r.Int64N(8<<16-wide) - 4<<16}[r.IntN(4)]
		all = append(all, span(lo, lo+wide, -16))
	}
	return all
}

// tame makes a subsystem of which all is promised: if it must be, with its rates divided by a power of two.
func tame(r *rand.Rand) posed {
	states, ins := 1+r.IntN(api.MaxStates), r.IntN(4)
	q := posed{x: small(r, states), p: small(r, 2), bits: []int{40, 41, 60, 64, 200}[r.IntN(5)]}
	q.f, q.g = grow(r, states, states, ins, 1+r.IntN(8)), grow(r, r.IntN(4), states, ins, 1+r.IntN(5))
	q.t = of([]int64{-4 << 16, 4 << 16, 0, r.Int64N(8<<16) - 4<<16}[r.IntN(4)], -16)
	q.h = of([]int64{1 << 16, 1, 1 + r.Int64N(1<<16)}[r.IntN(3)], -20)
	for range ins {
		u := walk(r, q.t, q.h, []int{1, 16, 1 + r.IntN(16)}[r.IntN(3)], 1<<r.IntN(18))
		for k, v := range u.V {
			u.V[k] = both(v, span(-4, 4, 0))
		}
		if tube.May(u) {
			q.u = append(q.u, u)
		} else {
			q.u = append(q.u, cells(q.t, q.h, span(-4, 4, 0)))
		}
	}
	for less := 0; less < 40 && !q.promised(); less++ {
		f := api.Tape{Lines: append(slices.Clone(q.f.Lines), number(only(1, -1)))}
		for _, out := range q.f.Outs {
			f.Outs = append(f.Outs, len(f.Lines))
			f.Lines = append(f.Lines, line(api.OMul, out, len(q.f.Lines)))
		}
		q.f = f
	}
	return q
}

// TestPromise: of 14.1, tame subsystems have no error, the box is at most 1/4 wide, and signals are within g's values.
func TestPromise(t *testing.T) {
	t.Parallel()
	for seed := range uint64(8) {
		t.Run("", func(t *testing.T) {
			t.Parallel()
			r, count := maker(60+seed), 0
			for range 20 {
				q := tame(r)
				if !q.promised() {
					continue
				}
				count++
				end, outs := q.kept(t)
				held(t, r, q, end, outs)
			}
			if count < 10 {
				t.Errorf("only %d subsystems", count)
			}
		})
	}
}

// edges are subsystems of which all is promised, though something is at its edge.
func edges() map[string]posed {
	x, four := state(0), number(only(4, 0))
	base := posed{f: sys(1, x, four, line(api.OSub, 0, 1)), g: sys(2, x, in(0)), x: row(span(4<<6-1, 4<<6, -6)), u: row(cells(of(4, 0), of(1, -4), span(-4, 4, 0))), t: of(4, 0), h: of(1, -4), bits: 40}
	all := map[string]posed{"as it is": base}
	put := func(name string, change func(q *posed)) { all[name] = base.with(change) }
	put("below 0", func(q *posed) {
		q.f, q.x, q.t = sys(1, x, four, line(api.OAdd, 0, 1)), row(span(-4<<6, -4<<6+1, -6)), of(-4, 0)
		q.u = row(cells(q.t, q.h, span(-4, 4, 0)))
	})
	put("200 bits", func(q *posed) { q.bits = 200 })
	put("a short time", func(q *posed) { q.h, q.u = of(1, -1000), row(cells(q.t, of(1, -1000), only(1, 0))) })
	put("too short a time to be cut", func(q *posed) { q.h, q.u = of(1, -4091), row(cells(q.t, of(1, -4091), only(1, 0))) })
	put("upward", func(q *posed) { q.f = sys(1, number(only(1, 0))) })
	put("downward", func(q *posed) { q.f = sys(1, number(only(-1, 0))) })
	put("anywhere", func(q *posed) { q.f = sys(1, number(span(-1, 1, 0))) })
	put("by an input", func(q *posed) { q.f = sys(1, in(0), number(only(1, -2)), line(api.OMul, 0, 1)) })
	put("by 16 cells", func(q *posed) {
		q.f, q.u = sys(1, in(0)), row(cells(q.t, of(1, -8), slices.Repeat(row(span(-1, 1, 0), only(1, 0)), 8)...))
	})
	put("by many inputs", func(q *posed) {
		// Together they have more cells than a tube.
		q.f.Lines, q.u = row(number(span(-1, 1, -1))), nil
		r := maker(3)
		for k := range 40 {
			q.u = append(q.u, walk(r, q.t, q.h, 16, 1<<10))
			q.f.Lines = append(q.f.Lines, in(k))
		}
		q.f.Outs, q.g.Outs = row(0), row(0, 0)
	})
	put("by a parameter", func(q *posed) { q.f, q.p = sys(1, par(0)), row(span(-1, 1, 0)) })
	put("a great parameter", func(q *posed) {
		q.f, q.p = sys(1, par(1), number(only(1, -2)), line(api.OMul, 0, 1)), row(api.Ival{}, span(-4, 4, 0))
	})
	put("of no width", func(q *posed) { q.x = row(only(4, 0)) })
	put("no outs", func(q *posed) { q.g = api.Tape{} })
	put("lines without outs", func(q *posed) { q.g.Outs = nil })
	put("no inputs", func(q *posed) { q.g, q.u = sys(1, x), nil })
	put("six states", func(q *posed) {
		q.x = slices.Repeat(row(span(0, 1, -6)), api.MaxStates)
		q.f.Lines = nil
		for k := range q.x {
			q.f.Lines = append(q.f.Lines, state(k))
		}
		q.f.Lines = append(q.f.Lines, number(only(7, -4)))
		for k := range q.x {
			n := len(q.f.Lines)
			q.f.Lines = append(q.f.Lines, line(api.OAdd, k, (k+1)%6), line(api.OAdd, n, (k+2)%6), line(api.OAdd, n+1, (k+3)%6), line(api.OMul, n+2, 6))
		}
		q.f.Outs = row(10, 14, 18, 22, 26, 30)
	})
	// Of rates that change as much as any from place to place, though they are small everywhere.
	put("a needle", func(q *posed) {
		q.x = row(span(-1, 1, -7))
		q.f = sys(1, x, number(only(1, 30)), line(api.OMul, 0, 1), line(api.OSqr, 2, 0), number(only(1, 0)), line(api.OAdd, 3, 4), line(api.ODiv, 4, 5))
	})
	// At 0 any of its ways may stay there, or leave it at any time.
	put("the root of the number without its sign", func(q *posed) {
		q.x = row(api.Ival{})
		q.f = sys(1, x, line(api.OSqr, 0, 0), line(api.OSqrt, 1, 0), line(api.OSqrt, 2, 0))
	})
	put("a root that may be 0", func(q *posed) {
		q.x, q.f = row(only(1, -1)), sys(1, x, line(api.OSqrt, 0, 0), line(api.ONeg, 1, 0), line(api.OMul, 0, 2))
	})
	put("a high power", func(q *posed) {
		q.f, q.x, q.g = high(), row(span(1, 2, -10)), high()
	})
	return all
}

// high is a tape of a power that is too far from 1/2 for a sum with it, but on boxes that reach further: there it is all numbers down to 0.
func high() api.Tape {
	f := api.Tape{Lines: row(state(0)), Outs: row(12)}
	for k := range 10 {
		f.Lines = append(f.Lines, line(api.OSqr, k, 0))
	}
	f.Lines = append(f.Lines, number(only(1, -1)), line(api.OAdd, 10, 11))
	return f
}

// TestEdges: also at the edges of what it asks for all is held that is promised.
func TestEdges(t *testing.T) {
	t.Parallel()
	for name, q := range edges() {
		t.Run(name, func(t *testing.T) {
			t.Parallel()
			if !q.promised() {
				t.Fatal("this isn't promised")
			}
			r := maker(4)
			end, outs := q.kept(t)
			for n := 0; n < 3 && (n < 1 || len(q.u) < 4); n++ {
				held(t, r, q, end, outs)
			}
		})
	}
}

// TestAllWays: where a state may go more ways than one, all are held: at 0 it may stay, or leave it, as t t / 4 does.
func TestAllWays(t *testing.T) {
	t.Parallel()
	q := edges()["the root of the number without its sign"]
	end, outs, code := q.run(t)
	if code != api.OK || !ival.Has(end[0], api.Dyad{}) || !ival.Has(end[0], of(1, -10)) {
		t.Fatal(end, code)
	}
	for k := range int64(17) {
		v := exactly(tube.At(outs[0], exactly(dyad.Add(q.t, of(k, -8)))))
		if !ival.Has(v, api.Dyad{}) || !ival.Has(v, of(k*k, -18)) {
			t.Errorf("after %d/256: %v", k, v)
		}
	}
	for _, h := range []api.Dyad{of(1, 0), of(1, 2)} {
		q := q.with(func(q *posed) { q.g, q.h, q.u = sys(1, state(0)), h, nil })
		end, _, code := q.run(t)
		if code == api.OK && (!ival.Has(end[0], api.Dyad{}) || !ival.Has(end[0], exactly(dyad.Shift(exactly(dyad.Mul(h, h)), -2)))) {
			t.Errorf("after %v: %v", h, end)
		}
	}
}

// needle is x' = -x 2^n / (1 + square of 2^(n+2) (t - 1/2)): about the time 1/2 it changes fast, for a short time.
func needle(n int) api.Tape {
	return sys(1, clock(), number(only(1, -1)), line(api.OSub, 0, 1), number(only(1, n+2)), line(api.OMul, 2, 3), line(api.OSqr, 4, 0), number(only(1, 0)), line(api.OAdd, 5, 6), number(only(-1, n)), line(api.ODiv, 8, 7), state(0), line(api.OMul, 9, 10))
}

// TestNeedle: where rates are great for a short time alone, steps are small there, and not elsewhere; up to some smallness.
func TestNeedle(t *testing.T) {
	t.Parallel()
	q := posed{x: row(only(1, 0)), h: of(1, 0), bits: 60}
	for _, n := range []int{4, 9, 14} {
		q.f = needle(n)
		// From 1 to e to the power of -pi/4, about 0.456.
		end, _, code := q.run(t)
		if code != api.OK || !ival.Has(end[0], of(467, -10)) || wide(box.Width(end)) > 0.53 {
			t.Errorf("of 2^%d: %v, %d", n, end, code)
		}
	}
	q.f = needle(40)
	q.has(t, api.ErrStep)
}

// TestNoBox: where numbers have so many bits that the box that is 1/2 greater is none, all is held that would be promised of it.
func TestNoBox(t *testing.T) {
	t.Parallel()
	least, far := of(1, -maxExp), of(1, -5000)
	// As many bits as there may be, below 4.
	long := api.Dyad{M: slices.Repeat(row[uint64](1<<64-1), api.MaxLimbs), E: 2 - 64*api.MaxLimbs}
	f := sys(1, state(0), par(0), line(api.OMul, 0, 1), clock(), line(api.OMul, 2, 3), number(only(1, -4)), line(api.OMul, 4, 5))
	g := sys(1, state(0), par(0), line(api.OMul, 0, 1))
	for i, q := range []posed{
		{f: f, g: g, x: row(from(least, least)), p: row(only(4, 0)), h: of(1, -4), bits: 60},
		{f: f, g: g, x: row(from(dyad.Neg(far), least)), p: row(from(far, long)), t: of(1, -5), h: of(1, -5), bits: 40},
		{f: f, g: g, x: row(from(long, long)), p: row(from(far, long)), t: of(1, -4000), h: of(1, -4), bits: 60},
		{f: f, g: g, x: row(from(long, long)), p: row(from(long, long)), h: far, bits: 60},
		{f: sys(1, number(only(1, 0))), g: high(), x: row(from(least, far)), h: of(1, -4), bits: 200},
		{f: sys(1, number(only(1, 0))), g: g, x: row(from(least, far)), p: row(from(far, far)), h: least, bits: 60},
		{f: high(), x: row(from(far, far)), h: of(1, -4), bits: 60},
	} {
		end, outs, code := q.run(t)
		if code != api.OK || dyad.Cmp(exactly(box.Width(end)), of(1, -2)) > 0 {
			t.Fatal(i, end, code)
		}
		if i < 3 && held(t, maker(5), q, end, outs) == 0 {
			t.Error(i, "nothing to hold it against")
		}
	}
}
