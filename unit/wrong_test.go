package unit_test

import (
	"math"
	"slices"
	"testing"

	"sluiceway/api"
	"sluiceway/box"
	"sluiceway/dyad"
	"sluiceway/ival"
	"sluiceway/tube"
)

// badDyads are Dyads that may not be, each for one reason.
var badDyads = []api.Dyad{
	{Neg: true},
	{E: 1},
	{M: []uint64{0}},
	{M: []uint64{6}},
	{M: []uint64{0, 1}, Neg: true},
	{M: []uint64{1, 0}},
	{M: slices.Repeat([]uint64{1}, api.MaxLimbs+1)},
	{M: []uint64{1}, E: maxExp + 1},
	{M: []uint64{1}, E: -maxExp - 1, Neg: true},
	{M: []uint64{3}, E: math.MinInt},
	{M: []uint64{3}, E: math.MaxInt},
}

// bad are intervals that may not be: for an end, or for their order.
func bad() []api.Ival {
	var all []api.Ival
	for _, d := range badDyads {
		all = append(all, from(d, d), from(of(-9, 0), d), from(d, of(9, 0)))
	}
	return append(all, span(3, 1, 0), span(1, 0, 0), span(0, -1, -maxExp))
}

// badLines are lines that may not be behind one, of two states, inputs and parameters; each for one reason.
func badLines() []api.Line {
	lines := row(line(0, 0, 0), line(14, 0, 0), line(-1, 0, 0), line(api.OTime, 1, 0), line(api.OState, -1, 0), state(2), state(math.MaxInt), line(api.OState, 0, 1), in(2), in(-1), in(math.MinInt), in(math.MaxInt), line(api.OIn, 0, 1), par(2), par(-1), par(math.MinInt), line(api.OAdd, 0, 1), line(api.OMul, -1, 0), line(api.ONeg, 1, 0), line(api.ONeg, 0, 1), line(api.OExp, math.MinInt, 0), api.Line{Op: api.OConst, A: 1}, api.Line{Op: api.OTime, K: only(1, 0)})
	for _, k := range bad() {
		lines = append(lines, number(k))
	}
	return lines
}

// badTapes are tapes that may not be, of two states, inputs and parameters and two outs.
func badTapes() []api.Tape {
	all := []api.Tape{
		{Lines: slices.Repeat(row(clock()), api.MaxLines+1), Outs: []int{0, 0}},
		{Lines: row(clock()), Outs: []int{0, 1}},
		{Lines: row(clock()), Outs: []int{-1, 0}},
		{Outs: []int{0, 0}},
		{Lines: row(clock()), Outs: []int{math.MinInt, math.MaxInt}},
	}
	for _, l := range badLines() {
		all = append(all, api.Tape{Lines: row(clock(), l, clock()), Outs: []int{0, 0}})
	}
	return all
}

// right is what may be: a subsystem of two states, inputs and parameters.
func right() posed {
	f := sys(2, state(0), state(1), par(1), line(api.OSub, 2, 0), in(1), line(api.OAdd, 3, 4), line(api.OMul, 1, 5))
	u := cells(of(1, 0), of(1, -4), span(0, 1, 0), span(1, 2, 0), span(-1, 1, 0))
	return posed{f: f, g: sys(2, state(1), in(0)), x: row(span(1, 2, -2), only(3, -2)), p: row(api.Ival{}, only(1, 0)), u: row(u, cells(of(1, 0), of(3, -4), span(-1, 1, -2))), t: of(1, 0), h: of(3, -4), bits: 60}
}

// has asks for a code.
func (q posed) has(t *testing.T, code int) {
	t.Helper()
	if _, _, c := q.run(t); c != code {
		t.Errorf("of %v: %d; want %d", q, c, code)
	}
}

// TestWrong hands over what may not be, one beside what may: also what no line asks for.
func TestWrong(t *testing.T) {
	t.Parallel()
	right().has(t, api.OK)
	ask := func(code int, change func(q *posed)) {
		t.Helper()
		right().with(change).has(t, code)
	}
	for _, bits := range []int{7, 201, 0, -1, -8, 300, math.MaxInt, math.MinInt} {
		ask(api.ErrArg, func(q *posed) { q.bits = bits })
	}
	for _, bits := range []int{8, 9, 199, 200} {
		ask(api.OK, func(q *posed) { q.bits = bits })
	}
	for _, tape := range badTapes() {
		ask(api.ErrArg, func(q *posed) { q.f = tape })
		ask(api.ErrArg, func(q *posed) { q.g = tape })
	}
	for _, outs := range [][]int{nil, {0}, {0, 0, 0}} {
		ask(api.ErrArg, func(q *posed) { q.f.Outs = outs })
		ask(api.OK, func(q *posed) { q.g.Outs = outs })
	}
	ask(api.ErrArg, func(q *posed) { q.f = api.Tape{} })
	ask(api.OK, func(q *posed) { q.g = api.Tape{} })
	for _, a := range bad() {
		for i := range 2 {
			ask(api.ErrArg, func(q *posed) { q.x[i] = a })
			ask(api.ErrArg, func(q *posed) { q.p[i] = a })
		}
	}
	for _, d := range badDyads {
		ask(api.ErrArg, func(q *posed) { q.t = d })
		ask(api.ErrArg, func(q *posed) { q.h = d })
		ask(api.ErrArg, func(q *posed) { q.t, q.u, q.f, q.g = d, nil, sys(2, par(0), par(0)), api.Tape{} })
	}
	// One less than the tapes name; and more than they name.
	ask(api.ErrArg, func(q *posed) { q.x = q.x[:1] })
	ask(api.ErrArg, func(q *posed) { q.x = append(q.x, only(1, 0)) })
	ask(api.ErrArg, func(q *posed) { q.p = q.p[:1] })
	ask(api.ErrArg, func(q *posed) { q.p = nil })
	ask(api.ErrArg, func(q *posed) { q.u = q.u[:1] })
	ask(api.ErrArg, func(q *posed) { q.u = nil })
	ask(api.OK, func(q *posed) { q.p = append(q.p, only(1, maxExp), only(1, -maxExp)) })
	ask(api.OK, func(q *posed) { q.u = append(q.u, cells(q.t, q.h, only(1, maxExp))) })
	// Ahead of what has no value.
	none := sys(2, state(1), line(api.ODiv, 0, 0), line(api.ODiv, 0, 0))
	ask(api.ErrDomain, func(q *posed) { q.f, q.x[1] = none, api.Ival{} })
	ask(api.ErrDomain, func(q *posed) { q.g, q.x[1] = none, api.Ival{} })
	ask(api.ErrArg, func(q *posed) { q.f, q.x[1], q.bits = none, api.Ival{}, 7 })
	ask(api.ErrArg, func(q *posed) { q.f, q.x[1], q.h = none, api.Ival{}, api.Dyad{} })
}

// TestNumbers: of states there are as many as of f's outs, from 1 to MaxStates.
func TestNumbers(t *testing.T) {
	t.Parallel()
	for n := range api.MaxStates + 3 {
		q := posed{f: sys(1, par(0)), x: make([]api.Ival, n), p: row(only(1, 0)), h: of(1, 0), bits: 30}
		q.f.Outs = make([]int, n)
		if 1 <= n && n <= api.MaxStates {
			q.has(t, api.OK)
		} else {
			q.has(t, api.ErrArg)
		}
	}
}

// TestTubes hands over tubes that may not be, or don't go from t to t + h; also where no line asks for them.
func TestTubes(t *testing.T) {
	t.Parallel()
	q := right()
	good := q.u[0]
	changed := func(change func(u *api.Tube)) api.Tube {
		u := api.Tube{At: slices.Clone(good.At), V: slices.Clone(good.V)}
		change(&u)
		return u
	}
	wrong := []api.Tube{
		{}, {At: good.At}, {V: good.V}, {At: good.At[:3], V: good.V}, {At: good.At, V: good.V[:2]},
		exactly(tube.Cut(good, q.t, of(9, -3))), exactly(tube.Cut(good, of(17, -4), of(19, -4))),
		cells(q.t, of(1, -3), good.V[0]), cells(of(15, -4), of(1, -2), good.V[0]), cells(of(1, -4), q.h, good.V[0]), cells(of(0, 0), q.h, good.V[0]), cells(of(2, 0), q.h, good.V[0]),
		changed(func(u *api.Tube) { u.At[0], u.At[1] = u.At[1], u.At[0] }),
		changed(func(u *api.Tube) { u.At[1] = u.At[2] }),
		changed(func(u *api.Tube) { u.At[3] = u.At[2] }),
		changed(func(u *api.Tube) { u.At[3] = exactly(dyad.Add(u.At[3], of(1, -3000))) }),
		changed(func(u *api.Tube) { u.At[0] = exactly(dyad.Sub(u.At[0], of(1, -3000))) }),
		cells(q.t, of(3, -13), slices.Repeat(good.V[:1], 512)...),
	}
	for _, a := range bad() {
		wrong = append(wrong, changed(func(u *api.Tube) { u.V[1] = a }))
	}
	for _, d := range badDyads {
		wrong = append(wrong, changed(func(u *api.Tube) { u.At[0] = d }), changed(func(u *api.Tube) { u.At[2] = d }), changed(func(u *api.Tube) { u.At[3] = d }))
	}
	for _, u := range wrong {
		for i := range 2 {
			q.with(func(q *posed) { q.u[i] = u }).has(t, api.ErrArg)
		}
		q.with(func(q *posed) { q.u = append(q.u, u) }).has(t, api.ErrArg)
		q.with(func(q *posed) { q.f, q.g = sys(2, par(1), par(1)), api.Tape{} }).has(t, api.OK)
		q.with(func(q *posed) { q.u, q.f, q.g = row(u), sys(2, par(1), par(1)), api.Tape{} }).has(t, api.ErrArg)
	}
	// As many cells as there may be.
	q.with(func(q *posed) { q.u[0] = cells(q.t, of(3, -12), slices.Repeat(good.V[:1], 256)...) }).has(t, api.OK)
}

// TestTimes: h is above 0; and where t + h is no number, nothing can be told of it, and no tube goes to it.
func TestTimes(t *testing.T) {
	t.Parallel()
	one := sys(1, par(0))
	ask := func(code int, at, h api.Dyad, u ...api.Tube) {
		t.Helper()
		for _, g := range row(one, api.Tape{}) {
			posed{f: one, g: g, x: row(api.Ival{}), p: row(only(1, 0)), u: u, t: at, h: h, bits: 40}.has(t, code)
		}
	}
	zero := api.Dyad{}
	for _, h := range []api.Dyad{zero, of(-1, 0), of(-1, -maxExp), of(-1, maxExp)} {
		ask(api.ErrArg, of(1, 0), h)
		ask(api.ErrArg, of(1, 0), h, cells(of(1, 0), of(1, 0), only(1, 0)))
	}
	ask(api.OK, of(1, 0), of(1, -4000))
	ask(api.OK, of(1, 0), of(1, -4095))
	ask(api.OK, of(-1, maxExp), of(1, maxExp))
	ask(api.OK, zero, of(1, -maxExp))
	ask(api.OK, of(-1, -maxExp), of(1, -maxExp))
	ask(api.ErrLimb, of(1, 0), of(1, -4096))
	ask(api.ErrLimb, of(1, 0), of(1, -maxExp))
	ask(api.ErrExp, of(1, maxExp), of(1, maxExp))
	for _, end := range []api.Dyad{of(2, 0), exactly(dyad.Add(of(1, 0), of(1, -4095)))} {
		u, code := tube.Make(of(1, 0), end, only(1, 0))
		if code != api.OK {
			t.Fatal(end, code)
		}
		ask(api.ErrArg, of(1, 0), of(1, -4096), u)
		ask(api.ErrArg, of(1, 0), of(1, -maxExp), u)
	}
	ask(api.ErrArg, of(-1, 0), of(1, -4097), cells(of(-1, 0), of(1, 0), only(1, 0)))
	u := exactly(tube.Make(of(1, 0), exactly(dyad.Add(of(1, 0), of(1, -4095))), only(1, 0)))
	ask(api.OK, of(1, 0), of(1, -4095), u)
}

// TestErrors: what can't be held has an error of f's or g's where it begins, else ErrStep.
func TestErrors(t *testing.T) {
	t.Parallel()
	x, one, now := state(0), number(only(1, 0)), clock()
	root, back := line(api.OSqrt, 0, 0), line(api.ODiv, 1, 0)
	square, still, nothing := sys(1, x, line(api.OSqr, 0, 0)), sys(1, number(api.Ival{})), api.Tape{}
	for i, c := range []struct {
		f, g api.Tape
		x    api.Ival
		t, h api.Dyad
		code int
	}{
		// Without a value at the beginning.
		{sys(1, x, one, back), nothing, only(0, 0), of(0, 0), of(1, -3), api.ErrDomain},
		{sys(1, x, one, back), nothing, span(-1, 1, 0), of(0, 0), of(1, -3), api.ErrDomain},
		{sys(1, x, root), nothing, span(-1, 1, 0), of(0, 0), of(1, -3), api.ErrDomain},
		{sys(1, x, line(api.OExp, 0, 0)), nothing, only(65, 0), of(0, 0), of(1, -3), api.ErrDomain},
		{sys(1, now, one, back), nothing, only(1, 0), of(0, 0), of(1, 0), api.ErrDomain},
		{square, nothing, only(1, maxExp/2+1), of(0, 0), of(1, -3), api.ErrExp},
		{sys(1, x, one, line(api.OAdd, 0, 1)), nothing, only(1, 5000), of(0, 0), of(1, -3), api.ErrLimb},
		{still, sys(1, x, one, back), only(0, 0), of(0, 0), of(1, -3), api.ErrDomain},
		{still, sys(1, x, root), span(-1, 1, 0), of(0, 0), of(1, -3), api.ErrDomain},
		{still, sys(1, now, one, back), only(1, 0), of(0, 0), of(1, -3), api.ErrDomain},
		{still, square, only(1, maxExp/2+1), of(0, 0), of(1, -3), api.ErrExp},
		{still, sys(1, x, number(only(1, -5000)), line(api.OAdd, 0, 1)), only(1, 0), of(0, 0), of(1, -3), api.ErrLimb},
		// Without an end: it grows beyond all numbers, at 1 or at 1/2 behind the beginning.
		{square, nothing, only(1, 0), of(0, 0), of(1, 0), api.ErrStep},
		{square, nothing, only(1, 0), of(5, 0), of(2, 0), api.ErrStep},
		{square, nothing, span(0, 2, 0), of(0, 0), of(1, -1), api.ErrStep},
		// Without a value on the way, or at the end.
		{sys(1, x, number(only(-1, 0)), back), nothing, only(1, 0), of(0, 0), of(1, -1), api.ErrStep},
		{sys(1, x, number(only(-1, 0)), back), nothing, only(1, 0), of(0, 0), of(2, 0), api.ErrStep},
		{sys(1, x, root, line(api.ONeg, 1, 0)), nothing, only(1, 0), of(0, 0), of(3, 0), api.ErrStep},
		{sys(1, now, one, back), nothing, only(1, 0), of(-1, 0), of(2, 0), api.ErrStep},
		{sys(1, now, one, back), nothing, only(1, 0), of(-1, 0), of(1, 0), api.ErrStep},
		{sys(1, now, root), nothing, only(1, 0), of(-1, -20), of(1, 0), api.ErrDomain},
		{still, sys(1, now, one, back), only(1, 0), of(-1, 0), of(1, 0), api.ErrStep},
		{still, sys(1, now, one, back), only(1, 0), of(-5, -4), of(1, 0), api.ErrStep},
		{sys(1, one), sys(1, x, root), only(0, 0), of(0, 0), of(1, 0), api.OK},
		{sys(1, number(only(-1, 0))), sys(1, x, root), only(1, 0), of(0, 0), of(1, 0), api.OK},
		{sys(1, number(only(-1, 0))), sys(1, x, root), only(1, 0), of(0, 0), of(5, -2), api.ErrStep},
		// Of which no step is small enough, with any number of steps that may be.
		{sys(1, x, number(only(-1, 40)), line(api.OMul, 0, 1)), nothing, only(1, 0), of(0, 0), of(1, 0), api.ErrStep},
		{sys(1, x, number(only(-1, 15)), line(api.OMul, 0, 1)), nothing, only(1, 0), of(0, 0), of(1, 0), api.ErrStep},
	} {
		q := posed{f: c.f, g: c.g, x: row(c.x), t: c.t, h: c.h, bits: 60}
		if q.has(t, c.code); t.Failed() {
			t.Fatal(i)
		}
	}
}

// TestInputErrors: also what inputs may be is asked for, only as far as it is so at the time.
func TestInputErrors(t *testing.T) {
	t.Parallel()
	back := sys(1, number(only(1, 0)), in(0), line(api.ODiv, 0, 1))
	for _, c := range []struct {
		code int
		v    []api.Ival
	}{
		{api.OK, row(span(1, 2, 0), span(1, 3, -3), only(1, 0))},
		{api.ErrDomain, row(span(0, 2, 0), span(1, 3, -3), only(1, 0))},
		{api.ErrDomain, row(span(1, 2, 0), span(-1, 3, -3), only(1, 0))},
		{api.ErrDomain, row(span(1, 2, 0), span(1, 3, -3), span(-1, 1, 0))},
	} {
		u := row(cells(of(1, 0), of(1, -4), c.v...))
		q := posed{f: back, x: row(api.Ival{}), u: u, t: of(1, 0), h: of(3, -4), bits: 60}
		q.has(t, c.code)
		q.f, q.g = sys(1, number(api.Ival{})), back
		q.has(t, c.code)
	}
	// 1 / (u - t), by cells that each are above the times in them alone.
	f := sys(1, number(only(1, 0)), in(0), clock(), line(api.OSub, 1, 2), line(api.ODiv, 0, 3))
	q := posed{f: f, g: f, x: row(api.Ival{}), u: row(cells(of(0, 0), of(1, 0), span(3, 5, -1), span(5, 6, -1), span(7, 9, -1))), h: of(3, 0), bits: 60}
	end, _, code := q.run(t)
	if code != api.OK || !ival.Has(end[0], of(3, 0)) || dyad.Cmp(exactly(box.Width(end)), of(9, 0)) > 0 {
		t.Error(end, code)
	}
}

// TestNoLine: also the error of a line that no out leans on is told, as by 8.
func TestNoLine(t *testing.T) {
	t.Parallel()
	lines := api.Tape{Lines: row(state(0), number(only(1, 0)), line(api.ODiv, 1, 0)), Outs: []int{1}}
	still := sys(1, number(api.Ival{}))
	for _, q := range []posed{{f: lines, g: still, x: row(api.Ival{})}, {f: still, g: lines, x: row(api.Ival{})}, {f: still, g: api.Tape{Lines: lines.Lines}, x: row(api.Ival{})}} {
		q.h, q.bits = of(1, 0), 60
		q.has(t, api.ErrDomain)
		q.with(func(q *posed) { q.x[0] = only(1, 0) }).has(t, api.OK)
	}
}
