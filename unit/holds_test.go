package unit_test

import (
	"math/bits"
	"math/rand/v2"
	"slices"
	"testing"

	"sluiceway/api"
	"sluiceway/dyad"
)

// pairs and singles are the operations that lean on two lines above, and on one; those of which values grow less wild come more than once.
func pairs() []int {
	return []int{api.OAdd, api.OSub, api.OMul, api.OAdd, api.OSub, api.OMul, api.ODiv}
}
func singles() []int {
	return []int{api.ONeg, api.OSqr, api.ONeg, api.OSqr, api.OSqrt, api.OExp}
}

// leaf is a line that leans on none: a constant, or what stands for the time, one of so many states or inputs or of two parameters.
func leaf(r *rand.Rand, states, ins int) api.Line {
	switch r.IntN(8) {
	case 0:
		return number(near(r))
	case 1:
		return clock()
	case 2:
		return par(r.IntN(2))
	case 3, 4, 5:
		if ins > 0 {
			return in(r.IntN(ins))
		}
	}
	return state(r.IntN(states))
}

// grow makes a tape of so many outs, of so many states and inputs and of two parameters: n lines behind those of the states and inputs.
func grow(r *rand.Rand, outs, states, ins, n int) api.Tape {
	var f api.Tape
	for k := range states {
		f.Lines = append(f.Lines, state(k))
	}
	for k := range ins {
		f.Lines = append(f.Lines, in(k))
	}
	for range n {
		above := len(f.Lines)
		switch r.IntN(4) {
		case 0:
			f.Lines = append(f.Lines, leaf(r, states, ins))
		case 1:
			f.Lines = append(f.Lines, line(singles()[r.IntN(len(singles()))], r.IntN(above), 0))
		default:
			f.Lines = append(f.Lines, line(pairs()[r.IntN(len(pairs()))], r.IntN(above), r.IntN(above)))
		}
	}
	for range outs {
		f.Outs = append(f.Outs, len(f.Lines)-1-r.IntN(min(n, 4)))
	}
	return f
}

// near is an interval of numbers that are near to each other, or one alone.
func near(r *rand.Rand) api.Ival {
	lo, wide := r.Int64N(1<<20)-1<<19, r.Int64N(1<<r.IntN(18))
	if r.IntN(2) == 0 {
		wide = 0
	}
	return span(lo, lo+wide, -17-r.IntN(3))
}

// nears are n of these.
func nears(r *rand.Rand, n int) []api.Ival {
	var all []api.Ival
	for range n {
		all = append(all, near(r))
	}
	return all
}

// walk is a tube of so many cells from t on for h, whose times are at any parts of h in 4096, and whose values overlap: from cell to cell they move by no more than they are wide.
func walk(r *rand.Rand, t, h api.Dyad, n int, widest int64) api.Tube {
	parts := row(0, 4096)
	for len(parts) <= n {
		if k := 1 + r.IntN(4095); !slices.Contains(parts, k) {
			parts = append(parts, k)
		}
	}
	slices.Sort(parts)
	var u api.Tube
	for _, k := range parts {
		u.At = append(u.At, exactly(dyad.Add(t, exactly(dyad.Mul(h, of(int64(k), -12))))))
	}
	wide := 1 + r.Int64N(widest)
	lo := r.Int64N(1<<18) - 1<<17
	for range n {
		u.V = append(u.V, span(lo, lo+wide, -16))
		lo += r.Int64N(2*wide+1) - wide
	}
	return u
}

// asked makes a subsystem, and what to ask of it.
func asked(r *rand.Rand) posed {
	states, ins := 1+r.IntN(3), r.IntN(3)
	q := posed{x: nears(r, states), p: nears(r, 2), t: near(r).Lo, h: of(1+r.Int64N(1<<15), -16)}
	q.f = grow(r, states, states, ins, 1+r.IntN(8))
	q.g = grow(r, r.IntN(3), states, ins, 1+r.IntN(4))
	for range ins {
		q.u = append(q.u, walk(r, q.t, q.h, []int{1, 2, 16, 1 + r.IntN(12)}[r.IntN(4)], 1<<r.IntN(16)))
	}
	q.bits = []int{8, 9, 30, 53, 60, 60, 64, 128, 200}[r.IntN(9)]
	return q
}

// TestHolds: of 14.1, 14.2 and T1, the answers hold the states and the outs of any subsystems, from all numbers of the intervals, whatever the inputs do in their tubes.
func TestHolds(t *testing.T) {
	t.Parallel()
	for seed := range uint64(8) {
		t.Run("", func(t *testing.T) {
			t.Parallel()
			r, codes, times := maker(20+seed), codesOf{}, 0
			for range 60 {
				q := asked(r)
				end, outs, code := q.run(t)
				codes[code]++
				if code == api.OK {
					times += held(t, r, q, end, outs)
				}
			}
			codes.ask(t, 1, api.OK, api.ErrDomain)
			if codes[api.OK] < 30 || times < 300 {
				t.Errorf("only %d times of %v", times, codes)
			}
		})
	}
}

// TestMoving: the answers hold also what inputs of many cells do, and of more cells together than a tube may have.
func TestMoving(t *testing.T) {
	t.Parallel()
	r := maker(40)
	f := sys(2, state(0), state(1), in(0), in(1), in(2), line(api.OSub, 2, 0), line(api.OMul, 3, 1), line(api.OSub, 5, 6), line(api.OMul, 4, 0))
	g := sys(3, state(0), in(2), line(api.OMul, 0, 1))
	for _, counts := range [][]int{{1, 1, 1}, {3, 40, 100}, {256, 1, 2}, {250, 250, 250}, {129, 128, 1}} {
		q := posed{f: f, g: g, x: row(span(1, 2, -4), only(1, 0)), t: of(-3, -2), h: of(1, -2), bits: 60}
		for _, n := range counts {
			q.u = append(q.u, walk(r, q.t, q.h, n, 1<<12))
		}
		end, outs, code := q.run(t)
		if code != api.OK {
			t.Fatal(counts, code)
		}
		for range 2 {
			if held(t, r, q, end, outs) < slices.Max(counts) {
				t.Error(counts, "not held to the end")
			}
		}
	}
}

// uneven is a tube from 0 to 1 of so many cells, none of whose times within cuts it into 2, 4, 8 or 16.
func uneven(n int) api.Tube {
	u := api.Tube{At: row(api.Dyad{}), V: slices.Repeat(row(span(0, 1, 0)), n)}
	for k := range n - 1 {
		u.At = append(u.At, of(int64(2*k+1), -10))
	}
	u.At = append(u.At, of(1, 0))
	return u
}

// TestCells: outs have a cell wherever inputs have one, and wherever the time is cut into 16, as far as a tube may have as many; else into less, and at last they have the cells of more of the inputs' ones together.
func TestCells(t *testing.T) {
	t.Parallel()
	few := slices.Repeat(row(uneven(1)), 3)
	for _, c := range []struct {
		ins         []api.Tube
		even, cells int
	}{
		{nil, 16, 16},
		{few, 16, 16},
		{row(cells(api.Dyad{}, of(1, -4), slices.Repeat(row(span(0, 1, 0)), 16)...)), 16, 16},
		{row(cells(api.Dyad{}, of(1, -8), slices.Repeat(row(span(0, 1, 0)), 256)...)), 16, 256},
		{row(uneven(3)), 16, 18},
		{append(few, uneven(40), uneven(60)), 16, 75},
		{row(uneven(241)), 16, 256},
		{row(uneven(242)), 8, 249},
		{row(uneven(249)), 8, 256},
		{row(uneven(253)), 4, 256},
		{row(uneven(255)), 2, 256},
		{row(uneven(256)), 1, 256},
		{row(uneven(256), cells(api.Dyad{}, of(1, -1), span(0, 1, 0), span(0, 1, 0))), 1, 129},
	} {
		q := posed{f: sys(1, number(api.Ival{})), x: row(api.Ival{}), u: c.ins, h: of(1, 0), bits: 30}
		for k := range c.ins {
			q.g.Lines, q.g.Outs = append(q.g.Lines, in(k)), append(q.g.Outs, k)
		}
		q.g.Lines, q.g.Outs = append(q.g.Lines, state(0)), append(q.g.Outs, len(c.ins))
		_, outs, code := q.run(t)
		if code != api.OK {
			t.Fatal(code)
		}
		for _, y := range outs {
			if len(y.V) != c.cells || !slices.ContainsFunc(y.At, func(d api.Dyad) bool {
				return c.even == 1 || dyad.Same(d, exactly(dyad.Shift(of(1, 0), 1-bits.Len(uint(c.even)))))
			}) {
				t.Errorf("%d inputs, in %d: %d cells", len(c.ins), c.even, len(y.V))
			}
			for _, u := range c.ins {
				for _, d := range u.At {
					if c.cells > 129 && !slices.ContainsFunc(y.At, func(o api.Dyad) bool { return dyad.Same(d, o) }) {
						t.Fatalf("no cell begins at %v", d)
					}
				}
			}
		}
	}
}

// codesOf counts codes.
type codesOf map[int]int

// ask asks for so many of each code.
func (c codesOf) ask(t *testing.T, least int, codes ...int) {
	t.Helper()
	for _, code := range codes {
		if c[code] < least {
			t.Errorf("only %d with the code %d: %v", c[code], code, c)
		}
	}
}
