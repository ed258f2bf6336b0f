package flow_test

import (
	"math"
	"math/big"
	"math/rand/v2"
	"slices"
	"testing"

	"sluiceway/api"
	"sluiceway/dyad"
)

// badDyads are Dyads that may not be, each for one reason.
var badDyads = []api.Dyad{
	{Neg: true},
	{E: 1},
	{M: []uint64{0}},
	{M: []uint64{6}},
	{M: []uint64{0, 1}, Neg: true},
	{M: []uint64{1, 0}},
	{M: slices.Repeat([]uint64{1}, api.MaxLimbs+1)},
	{M: []uint64{1}, E: maxExp + 1},
	{M: []uint64{1}, E: -maxExp - 1, Neg: true},
	{M: []uint64{3}, E: math.MinInt},
	{M: []uint64{3}, E: math.MaxInt},
}

// bad are intervals that may not be: for an end, or for their order.
func bad() []api.Ival {
	var all []api.Ival
	for _, d := range badDyads {
		all = append(all, from(d, d), from(of(-9, 0), d), from(d, of(9, 0)))
	}
	return append(all, span(3, 1, 0), span(1, 0, 0), span(0, -1, -maxExp))
}

// badTapes are tapes that may not be for two states and parameters, each for one reason.
func badTapes() []api.Tape {
	all := []api.Tape{
		{Lines: slices.Repeat(row(clock()), api.MaxLines+1), Outs: []int{0, 0}},
		{Lines: row(clock()), Outs: []int{0, 1}},
		{Lines: row(clock()), Outs: []int{-1, 0}},
		{Lines: row(clock()), Outs: []int{0}},
		{Lines: row(clock()), Outs: []int{0, 0, 0}},
		{Lines: row(clock())},
		{Outs: []int{0, 0}},
		{},
	}
	lines := row(line(0, 0, 0), line(14, 0, 0), line(-1, 0, 0), line(api.OTime, 1, 0), line(api.OState, -1, 0), state(2), state(math.MaxInt), line(api.OState, 0, 1), line(api.OIn, 0, 0), line(api.OIn, -1, 0), par(2), par(-1), par(math.MinInt), line(api.OAdd, 0, 1), line(api.OMul, -1, 0), line(api.ONeg, 1, 0), line(api.OExp, math.MinInt, 0), api.Line{Op: api.OConst, A: 1}, api.Line{Op: api.OTime, K: only(1, 0)})
	for _, k := range bad() {
		lines = append(lines, number(k))
	}
	for _, l := range lines {
		all = append(all, api.Tape{Lines: row(clock(), l, clock()), Outs: []int{0, 0}})
	}
	return all
}

// right is what may be: a system of two states and parameters.
func right() posed {
	f := sys(2, state(0), state(1), par(1), line(api.OSub, 2, 0), line(api.OMul, 1, 3))
	return posed{f, []api.Ival{span(1, 2, -2), only(3, -2)}, []api.Ival{{}, only(1, 0)}, of(1, 0), of(2, 0), of(1, -2), 60}
}

// has asks for a code.
func (q posed) has(t *testing.T, code int) {
	t.Helper()
	if _, _, c := q.both(t); c != code {
		t.Errorf("of %v: %d; want %d", q, c, code)
	}
}

// TestWrong hands over what may not be, one beside what may: also what no line asks for.
func TestWrong(t *testing.T) {
	t.Parallel()
	right().has(t, api.OK)
	ask := func(code int, change func(q *posed)) {
		t.Helper()
		right().with(change).has(t, code)
	}
	for _, bits := range []int{7, 201, 0, -1, -8, 300, math.MaxInt, math.MinInt} {
		ask(api.ErrArg, func(q *posed) { q.bits = bits })
	}
	for _, bits := range []int{8, 9, 199, 200} {
		ask(api.OK, func(q *posed) { q.bits = bits })
	}
	for _, f := range badTapes() {
		ask(api.ErrArg, func(q *posed) { q.f = f })
	}
	for _, a := range bad() {
		for i := range 2 {
			ask(api.ErrArg, func(q *posed) { q.x[i] = a })
			ask(api.ErrArg, func(q *posed) { q.p[i] = a })
		}
	}
	for _, d := range badDyads {
		ask(api.ErrArg, func(q *posed) { q.from = d })
		ask(api.ErrArg, func(q *posed) { q.to = d })
		ask(api.ErrArg, func(q *posed) { q.h = d })
	}
	// One less than the tape names; and more than it names.
	ask(api.ErrArg, func(q *posed) { q.x = q.x[:1] })
	ask(api.ErrArg, func(q *posed) { q.x = append(q.x, only(1, 0)) })
	ask(api.ErrArg, func(q *posed) { q.p = q.p[:1] })
	ask(api.ErrArg, func(q *posed) { q.p = nil })
	ask(api.OK, func(q *posed) { q.p = append(q.p, only(1, maxExp), only(1, -maxExp)) })
	// Numbers of states.
	for n := range api.MaxStates + 3 {
		q := posed{f: sys(1, par(0)), x: make([]api.Ival, n), p: []api.Ival{only(1, 0)}, to: of(1, 0), h: of(1, 0), bits: 30}
		q.f.Outs = make([]int, n)
		if 1 <= n && n <= api.MaxStates {
			q.has(t, api.OK)
		} else {
			q.has(t, api.ErrArg)
		}
	}
	// Times and steps.
	ask(api.ErrArg, func(q *posed) { q.h = api.Dyad{} })
	ask(api.ErrArg, func(q *posed) { q.h = of(-1, 0) })
	ask(api.ErrArg, func(q *posed) { q.h = of(-1, -maxExp) })
	ask(api.ErrArg, func(q *posed) { q.to, q.h = q.from, api.Dyad{} })
	ask(api.ErrArg, func(q *posed) { q.to, q.h = q.from, of(-1, 0) })
	ask(api.ErrArg, func(q *posed) { q.to = of(1<<40-1, -40) })
	ask(api.ErrArg, func(q *posed) { q.from, q.to = q.to, q.from })
	ask(api.ErrArg, func(q *posed) { q.from, q.to = of(-1, 0), of(-2, 0) })
	ask(api.OK, func(q *posed) { q.from = q.to })
	ask(api.OK, func(q *posed) { q.from, q.to = of(-2, 0), of(-1, 0) })
	// Ahead of what has no value.
	none := api.Tape{Lines: row(state(1), line(api.ODiv, 0, 0)), Outs: []int{1, 1}}
	ask(api.ErrDomain, func(q *posed) { q.f, q.x[1] = none, api.Ival{} })
	ask(api.ErrArg, func(q *posed) { q.f, q.x[1], q.bits = none, api.Ival{}, 7 })
	ask(api.ErrArg, func(q *posed) { q.f, q.x[1], q.h = none, api.Ival{}, api.Dyad{} })
}

// whole is d in units of 2^-unit.
func whole(d api.Dyad, unit int) *big.Int {
	z := new(big.Int)
	for _, x := range slices.Backward(d.M) {
		z.Lsh(z, 64).Or(z, new(big.Int).SetUint64(x))
	}
	if d.Neg {
		z.Neg(z)
	}
	return z.Lsh(z, uint(d.E+unit))
}

// wildDyad is any Dyad: of few limbs or of as many as there may be, of any size.
func wildDyad(r *rand.Rand) api.Dyad {
	m := make([]uint64, []int{1, 1, 2, api.MaxLimbs}[r.IntN(4)])
	for i := range m {
		m[i] = []uint64{r.Uint64(), math.MaxUint64}[r.IntN(2)]
	}
	m[0] |= 1
	m[len(m)-1] |= 1
	e := []int{0, -maxExp, maxExp, -64 * len(m), r.IntN(9000) - 4500, r.IntN(2*maxExp) - maxExp}[r.IntN(6)]
	if r.IntN(9) == 0 {
		return api.Dyad{}
	}
	return api.Dyad{Neg: r.IntN(2) == 0, M: m, E: e}
}

// TestFar: how far it is to the end is held against 64 steps to the last bit, also where neither is a Dyad.
func TestFar(t *testing.T) {
	t.Parallel()
	r := maker(6)
	// Without a value: so there is nothing to do where it isn't too far.
	f := sys(1, number(only(-1, 0)), line(api.OSqrt, 0, 0))
	count := codesOf{}
	for range 3000 {
		a, b, h := wildDyad(r), wildDyad(r), wildDyad(r)
		if dyad.Cmp(a, b) > 0 {
			a, b = b, a
		}
		if r.IntN(2) == 0 {
			// As far as it may be, or next to that.
			h = b
			h.E = max(-maxExp, h.E-6)
			a = api.Dyad{}
			if sum, code := dyad.Add(b, of(int64(r.IntN(3)-1), max(-maxExp, b.E-r.IntN(3)))); code == api.OK {
				b = sum
			}
		}
		if len(h.M) == 0 || dyad.Cmp(a, b) > 0 {
			continue
		}
		h.Neg = false
		_, code := posed{f, []api.Ival{{}}, nil, a, b, h, 30}.atEnd()
		long := new(big.Int).Sub(whole(b, maxExp), whole(a, maxExp))
		most := new(big.Int).Lsh(whole(h, maxExp), 6)
		if far := long.Cmp(most) > 0; far != (code == api.ErrArg) {
			t.Fatalf("from %v to %v by %v: %d", a, b, h, code)
		}
		count[long.Cmp(most)]++
	}
	count.ask(t, 100, -1, 0, 1)
}

// TestErrors: what can't be held has an error of f's where it begins, else ErrStep.
func TestErrors(t *testing.T) {
	t.Parallel()
	x, one := state(0), number(only(1, 0))
	root, back := line(api.OSqrt, 0, 0), line(api.ODiv, 1, 0)
	square := sys(1, x, line(api.OSqr, 0, 0))
	// The root of the number without its sign.
	still := sys(1, x, line(api.OSqr, 0, 0), line(api.OSqrt, 1, 0), line(api.OSqrt, 2, 0))
	for i, c := range []struct {
		f        api.Tape
		x        api.Ival
		from, to api.Dyad
		code     int
	}{
		// Without a value at the beginning.
		{sys(1, x, one, back), only(0, 0), of(0, 0), of(1, -3), api.ErrDomain},
		{sys(1, x, one, back), span(-1, 1, 0), of(0, 0), of(1, -3), api.ErrDomain},
		{sys(1, x, root), span(-1, 1, 0), of(0, 0), of(1, -3), api.ErrDomain},
		{sys(1, x, line(api.OExp, 0, 0)), only(65, 0), of(0, 0), of(1, -3), api.ErrDomain},
		{sys(1, clock(), one, back), only(1, 0), of(0, 0), of(1, 0), api.ErrDomain},
		{square, only(1, maxExp/2+1), of(0, 0), of(1, -3), api.ErrExp},
		{sys(1, x, one, line(api.OAdd, 0, 1)), only(1, 5000), of(0, 0), of(1, -3), api.ErrLimb},
		// With more solutions than one: at 0 any of them may stay there, or leave it at any time.
		{sys(1, x, root), only(0, 0), of(0, 0), of(1, 0), api.ErrDomain},
		{sys(1, x, root), span(0, 1, 0), of(0, 0), of(1, -3), api.ErrDomain},
		{still, only(0, 0), of(0, 0), of(1, -3), api.ErrDomain},
		{still, only(-1, 0), of(0, 0), of(3, 0), api.ErrStep},
		{still, only(-1, -20), of(0, 0), of(1, -2), api.ErrStep},
		// Without a solution so far: it grows beyond all numbers, at 1 or at 1/2 behind the beginning.
		{square, only(1, 0), of(0, 0), of(1, 0), api.ErrStep},
		{square, only(1, 0), of(5, 0), of(7, 0), api.ErrStep},
		{square, span(0, 2, 0), of(0, 0), of(1, -1), api.ErrStep},
		// Without a value on the way, or at the end.
		{sys(1, x, number(only(-1, 0)), back), only(1, 0), of(0, 0), of(1, -1), api.ErrStep},
		{sys(1, x, number(only(-1, 0)), back), only(1, 0), of(0, 0), of(2, 0), api.ErrStep},
		{sys(1, x, root, line(api.ONeg, 1, 0)), only(1, 0), of(0, 0), of(3, 0), api.ErrStep},
		{sys(1, clock(), one, back), only(1, 0), of(-1, 0), of(1, 0), api.ErrStep},
		{sys(1, clock(), one, back), only(1, 0), of(-1, 0), of(0, 0), api.ErrStep},
		{sys(1, clock(), root), only(1, 0), of(-1, -20), of(1, 0), api.ErrDomain},
		// Of which no step is small enough, with any number of steps that may be.
		{sys(1, x, number(only(-1, 40)), line(api.OMul, 0, 1)), only(1, 0), of(0, 0), of(1, 0), api.ErrStep},
	} {
		q := posed{f: c.f, x: []api.Ival{c.x}, from: c.from, to: c.to, h: of(1, -4), bits: 60}
		if q.has(t, c.code); t.Failed() {
			t.Fatal(i)
		}
	}
}

// TestNoLine: also the error of a line that no out leans on is told, as by 8; and where no time goes by it is told as well, for then there is no solution.
func TestNoLine(t *testing.T) {
	t.Parallel()
	f := api.Tape{Lines: row(state(0), number(only(1, 0)), line(api.ODiv, 1, 0)), Outs: []int{1}}
	q := posed{f: f, x: []api.Ival{{}}, to: of(1, 0), h: of(1, -2), bits: 60}
	q.has(t, api.ErrDomain)
	q.with(func(q *posed) { q.to = q.from }).has(t, api.ErrDomain)
	q.with(func(q *posed) { q.x[0] = only(1, 0) }).has(t, api.OK)
}
