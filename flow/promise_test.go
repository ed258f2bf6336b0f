package flow_test

import (
	"math/rand/v2"
	"slices"
	"testing"

	"sluiceway/api"
	"sluiceway/box"
	"sluiceway/dyad"
	"sluiceway/slope"
)

// within tells whether a is from -n times 2^e to n times 2^e.
func within(a api.Ival, n int64, e int) bool {
	return box.Within([]api.Ival{a}, []api.Ival{span(-n, n, e)})
}

// exactly is what a call that must have no error answers.
func exactly[T any](answer T, code int) T {
	if code != api.OK {
		panic(code)
	}
	return answer
}

// wider is x with 1/2 more on all sides.
func wider(x []api.Ival) []api.Ival {
	var all []api.Ival
	for _, a := range x {
		all = append(all, from(exactly(dyad.Sub(a.Lo, of(1, -1))), exactly(dyad.Add(a.Hi, of(1, -1)))))
	}
	return all
}

// promised tells whether 12.1 promises that there is no error: what it asks for, word by word, beside that all may be.
func (q posed) promised() bool {
	for _, l := range q.f.Lines {
		if slices.Contains([]int{api.OIn, api.ODiv, api.OSqrt, api.OExp}, l.Op) {
			return false
		}
	}
	for _, a := range slices.Concat(q.x, q.p, []api.Ival{from(q.from, q.to)}) {
		if !within(a, 1, 2) {
			return false
		}
	}
	long := exactly(dyad.Sub(q.to, q.from))
	if q.bits < 40 || dyad.Cmp(exactly(box.Width(q.x)), of(1, -6)) > 0 || dyad.Cmp(long, of(1, -2)) > 0 || dyad.Cmp(q.h, of(1, -4)) > 0 {
		return false
	}
	values, slopes, code := slope.Grad(q.f, api.Env{T: from(q.from, q.to), X: wider(q.x), P: q.p}, q.bits)
	return code == api.OK && !slices.ContainsFunc(slices.Concat(append(slopes, values)...), func(a api.Ival) bool { return !within(a, 1, 0) })
}

// ask holds what is promised against what is answered.
func (q posed) ask(t *testing.T) (end, way []api.Ival) {
	t.Helper()
	end, way, code := q.both(t)
	if code != api.OK {
		t.Fatalf("of %v: %d", q, code)
	}
	if w := exactly(box.Width(end)); dyad.Cmp(w, of(3, -2)) > 0 {
		t.Fatalf("of %v: %v is %v wide", q, end, w)
	}
	return end, way
}

// small are n intervals from -4 to 4, at most 2^-6 wide; some at the edges.
func small(r *rand.Rand, n int) []api.Ival {
	var all []api.Ival
	for range n {
		wide := []int64{0, 1 << 10, r.Int64N(1<<10 + 1)}[r.IntN(3)]
		lo := []int64{-4 << 16, 4<<16 - wide, 0, r.Int64N(8<<16-wide) - 4<<16}[r.IntN(4)]
		all = append(all, span(lo, lo+wide, -16))
	}
	return all
}

// tame makes a polynomial system of which all is promised: if it must be, with its rates divided by a power of two.
func tame(r *rand.Rand) posed {
	states := 1 + r.IntN(api.MaxStates)
	long := []int64{1 << 14, 0, r.Int64N(1 << 14)}[r.IntN(3)]
	q := posed{x: small(r, states), p: small(r, 2), bits: []int{40, 41, 60, 64, 200}[r.IntN(5)]}
	q.f = grow(r, states, 1+r.IntN(8), []int{api.OAdd, api.OSub, api.OMul}, []int{api.ONeg, api.OSqr})
	q.from = of([]int64{-4 << 16, 4<<16 - long, 0, r.Int64N(8<<16-long) - 4<<16}[r.IntN(4)], -16)
	q.to = fine(q.from, long, -16)
	q.h = of([]int64{1 << 18, long + r.Int64N(1<<18-long)}[r.IntN(2)], -22)
	if r.IntN(8) == 0 {
		// The least that may be.
		q.h = of(max(long, 1), -22)
	}
	for less := 0; less < 64 && !q.promised(); less++ {
		f := api.Tape{Lines: append(slices.Clone(q.f.Lines), number(only(1, -1)))}
		for _, out := range q.f.Outs {
			f.Outs = append(f.Outs, len(f.Lines))
			f.Lines = append(f.Lines, line(api.OMul, out, len(q.f.Lines)))
		}
		q.f = f
	}
	return q
}

// TestPromise: of 12.1, tame systems have no error, and To's box is at most 3/4 wide.
func TestPromise(t *testing.T) {
	t.Parallel()
	for seed := range uint64(4) {
		t.Run("", func(t *testing.T) {
			t.Parallel()
			r, count := maker(30+seed), 0
			for range 20 {
				q := tame(r)
				if !q.promised() {
					continue
				}
				count++
				end, way := q.ask(t)
				held(t, r, q, end, way, 2)
			}
			if count < 14 {
				t.Errorf("only %d systems", count)
			}
		})
	}
}

// edges are systems of which all is promised, though something is at its edge.
func edges() map[string]posed {
	x := state(0)
	base := posed{f: sys(1, x, number(only(4, 0)), line(api.OSub, 0, 1)), x: []api.Ival{span(4<<6-1, 4<<6, -6)}, from: of(4, 0), to: of(4, 0), h: of(1, -4), bits: 40}
	base.from = of(15, -2)
	all := map[string]posed{"as it is": base}
	put := func(name string, change func(q *posed)) { all[name] = base.with(change) }
	put("below 0", func(q *posed) {
		q.f = sys(1, x, number(only(4, 0)), line(api.OAdd, 0, 1))
		q.x, q.from, q.to = []api.Ival{span(-4<<6, -4<<6+1, -6)}, of(-4, 0), of(-15, -2)
	})
	put("200 bits", func(q *posed) { q.bits = 200 })
	put("no time", func(q *posed) { q.from = q.to })
	put("64 steps", func(q *posed) { q.h = of(1, -8) })
	put("more than 64 steps of few bits", func(q *posed) { q.h = fine(of(1, -8), 1, -40) })
	put("upward", func(q *posed) { q.f = sys(1, number(only(1, 0))) })
	put("downward", func(q *posed) { q.f = sys(1, number(only(-1, 0))) })
	put("anywhere", func(q *posed) { q.f = sys(1, number(span(-1, 1, 0))) })
	put("by a parameter", func(q *posed) { q.f, q.p = sys(1, par(0)), []api.Ival{span(-1, 1, 0)} })
	put("a great parameter", func(q *posed) {
		q.f, q.p = sys(1, par(1), number(only(1, -2)), line(api.OMul, 0, 1)), []api.Ival{{}, span(-4, 4, 0)}
	})
	put("by the time", func(q *posed) {
		q.f = sys(1, clock(), number(only(1, -2)), line(api.OMul, 0, 1))
	})
	put("of no width", func(q *posed) { q.x = []api.Ival{only(4, 0)} })
	put("six states", func(q *posed) {
		// Each is led by all others, as much as may be.
		q.x = slices.Repeat([]api.Ival{span(0, 1, -6)}, api.MaxStates)
		q.f.Lines = nil
		for k := range q.x {
			q.f.Lines = append(q.f.Lines, state(k))
		}
		q.f.Lines = append(q.f.Lines, number(only(5, -4)))
		for k := range q.x {
			n := len(q.f.Lines)
			q.f.Lines = append(q.f.Lines, line(api.OAdd, k, (k+1)%6), line(api.OAdd, n, (k+2)%6), line(api.OAdd, n+1, (k+3)%6), line(api.OMul, n+2, 6))
		}
		q.f.Outs = []int{10, 14, 18, 22, 26, 30}
	})
	put("a high power", func(q *posed) { q.f, q.x = high(), []api.Ival{span(1, 2, -10)} })
	return all
}

// high is a system of a power that is too far from 1/2 for a sum with it, but on boxes that reach further: there it is all numbers down to 0.
func high() api.Tape {
	f := api.Tape{Lines: row(state(0)), Outs: []int{12}}
	for k := range 10 {
		f.Lines = append(f.Lines, line(api.OSqr, k, 0))
	}
	f.Lines = append(f.Lines, number(only(1, -1)), line(api.OAdd, 10, 11))
	return f
}

// TestEdges: also at the edges of what it asks for all is held that is promised.
func TestEdges(t *testing.T) {
	t.Parallel()
	r := maker(4)
	for name, q := range edges() {
		t.Run(name, func(t *testing.T) {
			if !q.promised() {
				t.Fatal("this isn't promised")
			}
			end, way := q.ask(t)
			for range 3 {
				held(t, r, q, end, way, 3)
			}
		})
	}
}

// TestNoBox: where numbers have so many bits that the box that is 1/2 greater is none, all is held that would be promised of it.
func TestNoBox(t *testing.T) {
	t.Parallel()
	least, far := of(1, -maxExp), of(1, -5000)
	// As many bits as there may be, below 4.
	long := api.Dyad{M: slices.Repeat([]uint64{1<<64 - 1}, api.MaxLimbs), E: 2 - 64*api.MaxLimbs}
	f := sys(1, state(0), par(0), line(api.OMul, 0, 1), clock(), line(api.OMul, 2, 3), number(only(1, -4)), line(api.OMul, 4, 5))
	for i, q := range []posed{
		{f, []api.Ival{from(least, least)}, []api.Ival{only(4, 0)}, of(0, 0), of(1, -2), of(1, -4), 60},
		{f, []api.Ival{from(dyad.Neg(far), least)}, []api.Ival{from(far, long)}, dyad.Neg(far), of(1, -2), of(1, -5), 40},
		{f, []api.Ival{from(long, long)}, []api.Ival{from(far, long)}, least, far, of(1, -4), 60},
		{f, []api.Ival{from(long, long)}, []api.Ival{from(long, long)}, of(0, 0), far, far, 60},
		{sys(1, number(only(1, 0))), []api.Ival{from(least, far)}, nil, least, of(1, -2), of(1, -8), 200},
		{sys(1, number(only(1, 0))), []api.Ival{from(least, far)}, nil, of(0, 0), least, of(1, -4), 60},
		{high(), []api.Ival{from(far, far)}, nil, of(0, 0), of(1, -2), of(1, -4), 60},
	} {
		end, way := q.ask(t)
		if held(t, maker(5), q, end, way, 3) == 0 && i < 3 {
			t.Error(i, "nothing to hold it against")
		}
	}
}
