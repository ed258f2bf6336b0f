package flow_test

import (
	"math/big"
	"math/rand/v2"
	"testing"

	"sluiceway/api"
)

// pairs and singles are the operations that lean on two lines above, and on one; those of which values grow less wild come more than once.
func pairs() []int {
	return []int{api.OAdd, api.OSub, api.OMul, api.OAdd, api.OSub, api.OMul, api.ODiv}
}
func singles() []int {
	return []int{api.ONeg, api.OSqr, api.ONeg, api.OSqr, api.OSqrt, api.OExp}
}

// leaf is a line that leans on none: a constant, or what stands for the time, one of so many states or one of two parameters.
func leaf(r *rand.Rand, states int) api.Line {
	switch r.IntN(6) {
	case 0:
		return number(near(r))
	case 1:
		return clock()
	case 2:
		return par(r.IntN(2))
	}
	return state(r.IntN(states))
}

// grow makes a system of so many states and two parameters, of n lines behind those of the states.
func grow(r *rand.Rand, states, n int, pairs, singles []int) api.Tape {
	var f api.Tape
	for k := range states {
		f.Lines = append(f.Lines, state(k))
	}
	for range n {
		above := len(f.Lines)
		switch r.IntN(4) {
		case 0:
			f.Lines = append(f.Lines, leaf(r, states))
		case 1:
			f.Lines = append(f.Lines, line(singles[r.IntN(len(singles))], r.IntN(above), 0))
		default:
			f.Lines = append(f.Lines, line(pairs[r.IntN(len(pairs))], r.IntN(above), r.IntN(above)))
		}
	}
	for range states {
		f.Outs = append(f.Outs, len(f.Lines)-1-r.IntN(min(n, 4)))
	}
	return f
}

// near is an interval of numbers that are near to each other, or one alone.
func near(r *rand.Rand) api.Ival {
	lo, wide := r.Int64N(1<<20)-1<<19, r.Int64N(1<<r.IntN(18))
	if r.IntN(2) == 0 {
		wide = 0
	}
	return span(lo, lo+wide, -17-r.IntN(3))
}

// nears are n of these.
func nears(r *rand.Rand, n int) []api.Ival {
	var all []api.Ival
	for range n {
		all = append(all, near(r))
	}
	return all
}

// asked makes a system, and what to ask of it.
func asked(r *rand.Rand) posed {
	states := 1 + r.IntN(3)
	q := posed{f: grow(r, states, 1+r.IntN(8), pairs(), singles()), x: nears(r, states), p: nears(r, 2)}
	q.from = near(r).Lo
	long := r.Int64N(1 << 16)
	q.to = fine(q.from, long, -16)
	// Of one step, or of more; of few bits, so that they don't end where the time does.
	q.h = of(long/(1+r.Int64N(8))+1, -16)
	q.bits = []int{8, 9, 30, 53, 60, 60, 64, 128, 200}[r.IntN(9)]
	return q
}

// fine is d and n times 2^e.
func fine(d api.Dyad, n int64, e int) api.Dyad {
	z := new(big.Float).Add(worth(d), float(n, e))
	m := new(big.Float).SetMantExp(z, 40)
	k, _ := m.Int64()
	return of(k, -40)
}

// held holds the boxes of what is posed against the way of one number of each interval, and counts the times.
func held(t *testing.T, r *rand.Rand, q posed, end, way []api.Ival, parts int) int {
	t.Helper()
	x := points(r, q.x)
	track, wrong := chosen(r, q.f, q.p).track(worth(q.from), worth(q.to), x, parts)
	for part, now := range track {
		for k, v := range now {
			if !has(way[k], v, wrong) {
				t.Fatalf("of %v: %v does not hold the state %d of %v, %v after %d of %d", q, way[k], k, x, v, part, parts)
			}
			if part == parts && !has(end[k], v, wrong) {
				t.Fatalf("of %v: at the end %v does not hold the state %d of %v, %v", q, end[k], k, x, v)
			}
		}
	}
	if len(track) == parts+1 && wrong.MantExp(nil) < -100 {
		return 1
	}
	return 0
}

// TestHolds: of 12.1, 12.2 and T1, the boxes hold the solutions of any systems, from all numbers of the intervals, at the end and on the way.
func TestHolds(t *testing.T) {
	t.Parallel()
	for seed := range uint64(4) {
		t.Run("", func(t *testing.T) {
			t.Parallel()
			r, codes, ends := maker(20+seed), codesOf{}, 0
			for range 80 {
				q := asked(r)
				end, way, code := q.both(t)
				codes[code]++
				if code == api.OK {
					ends += held(t, r, q, end, way, 4)
				}
			}
			codes.ask(t, 1, api.OK, api.ErrStep, api.ErrDomain)
			if codes[api.OK] < 50 || ends < 40 {
				t.Errorf("only %d ends of %d systems", ends, codes[api.OK])
			}
		})
	}
}

// codesOf counts codes.
type codesOf map[int]int

// ask asks for so many of each code.
func (c codesOf) ask(t *testing.T, least int, codes ...int) {
	t.Helper()
	for _, code := range codes {
		if c[code] < least {
			t.Errorf("only %d with the code %d: %v", c[code], code, c)
		}
	}
}
