package jet_test

import (
	"math"
	"math/rand/v2"
	"slices"
	"testing"

	"sluiceway/api"
	"sluiceway/ival"
	"sluiceway/jet"
	"sluiceway/round"
)

// badPrecs are numbers of bits that may not be.
var badPrecs = []int{0, -1, most + 1, api.MaxPrec, math.MaxInt, math.MinInt}

// badOrders are orders that may not be.
var badOrders = []int{-1, maxOrder + 1, math.MaxInt, math.MinInt}

// badDyads are Dyads that may not be, each for one reason.
var badDyads = []api.Dyad{
	{Neg: true},
	{E: 1},
	{M: []uint64{0}},
	{M: []uint64{6}},
	{M: []uint64{0, 1}, Neg: true},
	{M: []uint64{1, 0}},
	{M: slices.Repeat([]uint64{1}, api.MaxLimbs+1)},
	{M: []uint64{1}, E: maxExp + 1},
	{M: []uint64{1}, E: -maxExp - 1, Neg: true},
	{M: []uint64{3}, E: math.MinInt},
}

// bad are intervals that may not be: for an end, or for their order.
func bad() []api.Ival {
	var all []api.Ival
	for _, d := range badDyads {
		all = append(all, from(d, d), from(of(-9, 0), d), from(d, of(9, 0)))
	}
	return append(all, span(3, 1, 0), span(1, 0, 0), span(0, -1, -maxExp))
}

// badTapes are tapes that may not be for two states and two parameters, each for one reason.
func badTapes() []api.Tape {
	time := line(api.OTime, 0, 0)
	all := []api.Tape{
		{Lines: slices.Repeat(row(time), maxLines+1), Outs: []int{0, 0}},
		{Lines: row(time), Outs: []int{0, 1}},
		{Lines: row(time), Outs: []int{-1, 0}},
		{Outs: []int{0, 0}},
	}
	lines := row(line(0, 0, 0), line(14, 0, 0), line(api.OTime, 1, 0), line(api.OState, -1, 0), line(api.OState, 2, 0), line(api.OPar, 2, 0), line(api.OPar, math.MaxInt, 0), line(api.OAdd, 0, 1), line(api.OAdd, 1, 0), line(api.OMul, -1, 0), line(api.ONeg, 1, 0), line(api.OSqrt, 0, -1), line(api.OExp, math.MinInt, 0), api.Line{Op: api.OConst, A: 1}, api.Line{Op: api.OTime, K: only(1, 0)},
		// There are no inputs.
		line(api.OIn, 0, 0), line(api.OIn, 1, 0), line(api.OIn, -1, 0))
	for _, k := range bad() {
		lines = append(lines, number(k))
	}
	for _, l := range lines {
		all = append(all, api.Tape{Lines: row(time, l, time), Outs: []int{0, 0}})
	}
	return all
}

// given is what Series is given.
type given struct {
	t       api.Tape
	time    []api.Ival
	x, p    [][]api.Ival
	k, bits int
}

// right is what may be: a tape with two states and two parameters, of order k.
func right(k int) given {
	two := func() [][]api.Ival {
		return [][]api.Ival{padded(k+1, only(1, 0), span(1, 2, 0)), padded(k+1, span(3, 4, 0))}
	}
	f := api.Tape{Lines: row(line(api.OTime, 0, 0), line(api.OState, 1, 0), line(api.OPar, 1, 0)), Outs: []int{1, 2}}
	return given{f, padded(k+1, span(1, 2, 0)), two(), two(), k, 53}
}

// ask holds Series against a code, with nothing beside an error.
func (g given) ask(t *testing.T, code int) {
	t.Helper()
	if got, c := jet.Series(g.t, g.time, g.x, g.p, g.k, g.bits); c != code || code != api.OK && len(got) != 0 {
		t.Errorf("Series of %v: %v, %d; want %d", g, got, c, code)
	}
}

// with is g with something else.
func (g given) with(change func(g *given)) given {
	change(&g)
	return g
}

// TestSeriesWrong hands over what may not be, one beside what may: also what no line asks for.
func TestSeriesWrong(t *testing.T) {
	for k := range maxOrder + 1 {
		right(k).ask(t, api.OK)
		for _, bits := range badPrecs {
			right(k).with(func(g *given) { g.bits = bits }).ask(t, api.ErrArg)
		}
		for _, n := range append(badOrders, k-1, k+1) {
			right(k).with(func(g *given) { g.k = n }).ask(t, api.ErrArg)
		}
		for i := range 5 {
			for _, n := range []int{0, 1, k, k + 2, maxOrder + 2} {
				if n == k+1 {
					continue
				}
				g := right(k)
				*g.series(i) = make([]api.Ival, n)
				g.ask(t, api.ErrArg)
			}
			for j := range k + 1 {
				a := bad()[(i*maxOrder+j)%len(bad())]
				g := right(k)
				(*g.series(i))[j] = a
				g.ask(t, api.ErrArg)
			}
		}
	}
	for _, f := range badTapes() {
		right(2).with(func(g *given) { g.t = f }).ask(t, api.ErrArg)
	}
	// Behind a line that has no value, too.
	none := row(number(api.Ival{}), line(api.ODiv, 0, 0))
	right(1).with(func(g *given) { g.t = api.Tape{Lines: none} }).ask(t, api.ErrDomain)
	for _, l := range row(line(api.OIn, 0, 0), line(api.OState, 2, 0), line(api.OPar, 2, 0)) {
		right(1).with(func(g *given) { g.t = api.Tape{Lines: slices.Concat(none, row(l))} }).ask(t, api.ErrArg)
	}
	// What nothing is asked of.
	for _, bits := range badPrecs {
		given{bits: bits, time: make([]api.Ival, 1)}.ask(t, api.ErrArg)
	}
	for _, a := range bad() {
		for i := range 5 {
			g := right(3)
			(*g.series(i))[i%4] = a
			g.ask(t, api.ErrArg)
		}
	}
	// One state or parameter less than the tape names; and more than it names.
	right(1).with(func(g *given) { g.x = g.x[:1] }).ask(t, api.ErrArg)
	right(1).with(func(g *given) { g.p = g.p[:1] }).ask(t, api.ErrArg)
	right(1).with(func(g *given) { g.x, g.p = append(g.x, g.x...), append(g.p, g.p...) }).ask(t, api.OK)
	right(1).with(func(g *given) { g.t = api.Tape{} }).ask(t, api.OK)
	given{bits: 1}.ask(t, api.ErrArg)
	given{bits: 1, time: make([]api.Ival, 1)}.ask(t, api.OK)
	given{k: -1, bits: 1}.ask(t, api.ErrArg)
	given{k: maxOrder + 1, bits: 1, time: make([]api.Ival, maxOrder+2)}.ask(t, api.ErrArg)
}

// series is one of the five of what is given.
func (g *given) series(i int) *[]api.Ival {
	return []*[]api.Ival{&g.time, &g.x[0], &g.x[1], &g.p[0], &g.p[1]}[i]
}

// posed is what Solve is given.
type posed struct {
	f       api.Tape
	t       api.Ival
	x, p    []api.Ival
	k, bits int
}

// well is what may be: a system of two states and two parameters, up to order k.
func well(k int) posed {
	f := api.Tape{Lines: row(line(api.OTime, 0, 0), line(api.OState, 1, 0), line(api.OPar, 1, 0)), Outs: []int{1, 2}}
	return posed{f, span(1, 2, 0), []api.Ival{only(1, 0), span(3, 4, 0)}, []api.Ival{only(1, 0), span(3, 4, 0)}, k, 53}
}

// ask holds Solve against a code, with nothing beside an error.
func (q posed) ask(t *testing.T, code int) {
	t.Helper()
	if got, c := jet.Solve(q.f, q.t, q.x, q.p, q.k, q.bits); c != code || code != api.OK && len(got) != 0 {
		t.Errorf("Solve of %v: %v, %d; want %d", q, got, c, code)
	}
}

// with is q with something else.
func (q posed) with(change func(q *posed)) posed {
	change(&q)
	return q
}

// TestSolveWrong hands over what may not be, one beside what may: also where no order asks for it.
func TestSolveWrong(t *testing.T) {
	for k := range maxOrder + 1 {
		well(k).ask(t, api.OK)
		for _, bits := range badPrecs {
			well(k).with(func(q *posed) { q.bits = bits }).ask(t, api.ErrArg)
		}
		for _, a := range bad() {
			well(k).with(func(q *posed) { q.t = a }).ask(t, api.ErrArg)
			for i := range 2 {
				well(k).with(func(q *posed) { q.x[i] = a }).ask(t, api.ErrArg)
				well(k).with(func(q *posed) { q.p[i] = a }).ask(t, api.ErrArg)
			}
		}
		for _, f := range badTapes() {
			well(k).with(func(q *posed) { q.f = f }).ask(t, api.ErrArg)
		}
		// As many outs as states: neither less nor more.
		for _, outs := range [][]int{nil, {}, {1}, {1, 2, 0}, {0, 0, 0, 0}} {
			well(k).with(func(q *posed) { q.f.Outs = outs }).ask(t, api.ErrArg)
		}
		well(k).with(func(q *posed) { q.f.Outs = []int{0, 0} }).ask(t, api.OK)
		well(k).with(func(q *posed) { q.x = append(q.x, only(1, 0)) }).ask(t, api.ErrArg)
		well(k).with(func(q *posed) { q.x = q.x[:1] }).ask(t, api.ErrArg)
		well(k).with(func(q *posed) { q.x = nil }).ask(t, api.ErrArg)
		well(k).with(func(q *posed) { q.p = q.p[:1] }).ask(t, api.ErrArg)
		well(k).with(func(q *posed) { q.p = append(q.p, only(1, 0)) }).ask(t, api.OK)
		// As many outs as states, but a state less than a line names.
		well(k).with(func(q *posed) { q.x, q.f.Outs = q.x[:1], []int{0} }).ask(t, api.ErrArg)
	}
	for _, k := range badOrders {
		well(k).ask(t, api.ErrArg)
		posed{k: k, bits: 1}.ask(t, api.ErrArg)
	}
	for _, bits := range badPrecs {
		posed{bits: bits}.ask(t, api.ErrArg)
	}
	// Ahead of a state that has no value.
	for _, a := range bad() {
		well(1).with(func(q *posed) { q.x, q.bits = []api.Ival{huge(), a}, 1 }).ask(t, api.ErrArg)
	}
	posed{bits: 1}.ask(t, api.OK)
	posed{bits: most, k: maxOrder}.ask(t, api.OK)
}

// huge has no Up to one bit.
func huge() api.Ival { return only(3, maxExp) }

// asked holds Series of a tape with states of k + 1 coefficients against a code.
func asked(t *testing.T, lines []api.Line, bits, code int, x ...[]api.Ival) {
	t.Helper()
	g := given{api.Tape{Lines: lines}, make([]api.Ival, len(x[0])), x, nil, len(x[0]) - 1, bits}
	for _, outs := range [][]int{nil, {0}, all(len(lines))} {
		g.t.Outs = outs
		g.ask(t, code)
		series(t, g.t, g.time, g.x, g.p, g.k, g.bits)
	}
}

// TestErrors: what has no value, of each operation, at the order that has none.
func TestErrors(t *testing.T) {
	one := line(api.OState, 0, 0)
	two := line(api.OState, 1, 0)
	top, low, unit := only(1, maxExp), only(1, -maxExp), only(1, 0)
	for _, c := range []struct {
		lines []api.Line
		bits  int
		x     [][]api.Ival
		code  int
	}{
		// Rounded: each coefficient of what a line asks for, and no other.
		{row(number(huge())), 1, [][]api.Ival{{unit}}, api.ErrExp},
		{row(number(huge())), 2, [][]api.Ival{{unit}}, api.OK},
		{row(one), 1, [][]api.Ival{{huge(), unit}}, api.ErrExp},
		{row(one), 1, [][]api.Ival{{unit, huge()}}, api.ErrExp},
		{row(one), 2, [][]api.Ival{{huge(), huge()}}, api.OK},
		{row(two), 1, [][]api.Ival{{huge(), huge()}, {unit, unit}}, api.OK},
		// Sums.
		{row(one, two, line(api.OAdd, 0, 1)), 9, [][]api.Ival{{unit, unit}, {unit, top}}, api.ErrLimb},
		{row(one, two, line(api.OSub, 0, 1)), 9, [][]api.Ival{{unit, unit}, {unit, top}}, api.ErrLimb},
		{row(one, two, line(api.OAdd, 0, 1)), 9, [][]api.Ival{{unit, top}, {unit, top}}, api.ErrExp},
		// Products: also one whose other number is of another order.
		{row(one, two, line(api.OMul, 0, 1)), 9, [][]api.Ival{{unit, top}, {unit, unit}}, api.ErrLimb},
		{row(one, two, line(api.OMul, 0, 1)), 9, [][]api.Ival{{{}, top}, {top, unit}}, api.ErrExp},
		{row(one, line(api.OSqr, 0, 0)), 9, [][]api.Ival{{unit, only(1, 5000), {}}}, api.OK},
		{row(one, line(api.OSqr, 0, 0)), 9, [][]api.Ival{{unit, only(1, 5000), unit}}, api.ErrLimb},
		{row(one, line(api.OSqr, 0, 0)), 9, [][]api.Ival{{{}, top, {}}}, api.ErrExp},
		{row(one, line(api.OSqr, 0, 0)), 9, [][]api.Ival{{top, {}}}, api.ErrExp},
		// Quotients: by an interval that holds 0, at order 0; of the others 0 is no matter.
		{row(one, two, line(api.ODiv, 0, 1)), 9, [][]api.Ival{{unit}, {span(-1, 0, 0)}}, api.ErrDomain},
		{row(one, two, line(api.ODiv, 0, 1)), 9, [][]api.Ival{{unit, unit}, {unit, span(-1, 1, 0)}}, api.OK},
		{row(one, two, line(api.ODiv, 0, 1)), 9, [][]api.Ival{{low, unit}, {only(2, 0), unit}}, api.ErrExp},
		{row(one, two, line(api.ODiv, 0, 1)), 9, [][]api.Ival{{unit, unit}, {unit, top}}, api.ErrLimb},
		// Roots: of 0 there is one, but it has no slope.
		{row(one, line(api.OSqrt, 0, 0)), 9, [][]api.Ival{{span(0, 4, 0)}}, api.OK},
		{row(one, line(api.OSqrt, 0, 0)), 9, [][]api.Ival{{span(0, 4, 0), {}}}, api.ErrDomain},
		{row(one, line(api.OSqrt, 0, 0)), 9, [][]api.Ival{{{}, unit}}, api.ErrDomain},
		{row(one, line(api.OSqrt, 0, 0)), 9, [][]api.Ival{{span(-1, 4, 0)}}, api.ErrDomain},
		{row(one, line(api.OSqrt, 0, 0)), 9, [][]api.Ival{{low, top}}, api.ErrExp},
		// Divided by 1 at once, not by 1/2 and by 2.
		{row(one, line(api.OSqrt, 0, 0)), 9, [][]api.Ival{{only(1, -2), top}}, api.OK},
		{row(one, line(api.OSqrt, 0, 0)), 9, [][]api.Ival{{unit, unit, top}}, api.ErrLimb},
		// Powers of e: of what has none; and of what is too fine, but at order 0 alone.
		{row(one, line(api.OExp, 0, 0)), 9, [][]api.Ival{{span(-64, 64, 0), top}}, api.ErrExp},
		{row(one, line(api.OExp, 0, 0)), 9, [][]api.Ival{{span(-64, 65, 0), unit}}, api.ErrDomain},
		{row(one, line(api.OExp, 0, 0)), 9, [][]api.Ival{{only(1, -401), unit}}, api.ErrLimb},
		{row(one, line(api.OExp, 0, 0)), 9, [][]api.Ival{{unit, only(1, -401), only(65, 0)}}, api.OK},
		{row(one, line(api.OExp, 0, 0)), 9, [][]api.Ival{{{}, {}, top}}, api.ErrExp},
		{row(one, line(api.OExp, 0, 0)), 9, [][]api.Ival{{{}, unit, only(1, 5000)}}, api.ErrLimb},
	} {
		asked(t, c.lines, c.bits, c.code, c.x...)
	}
}

// atLast holds Series against a code that the last order has, and no order below it.
func atLast(t *testing.T, lines []api.Line, code int, x ...[]api.Ival) {
	t.Helper()
	asked(t, lines, 9, code, x...)
	var below [][]api.Ival
	for _, c := range x {
		below = append(below, c[:len(c)-1])
	}
	asked(t, lines, 9, api.OK, below...)
}

// TestFirst: of several errors the first line's is told, whatever its order; of one line's that of the least order; of one order's that of the first product or sum.
func TestFirst(t *testing.T) {
	zero, unit, less, top, wide := api.Ival{}, only(1, 0), only(-1, 0), only(1, maxExp), only(1, 5000)
	one, two := line(api.OState, 0, 0), line(api.OState, 1, 0)
	sum, domain := line(api.OAdd, 0, 1), line(api.ODiv, 1, 0)
	// The sum has too many limbs at order 2, the quotient by 0 has no value at order 0.
	x, y := []api.Ival{zero, unit, unit}, []api.Ival{unit, unit, top}
	atLast(t, row(one, two, sum), api.ErrLimb, x, y)
	asked(t, row(one, two, sum, domain), 9, api.ErrLimb, x, y)
	asked(t, row(one, two, domain, sum), 9, api.ErrDomain, x, y)
	asked(t, row(one, two, sum, domain), 9, api.ErrDomain, x[:2], y[:2])
	// 1 and 2^MaxExp at order 1, twice 2^MaxExp at order 2; and the other way about.
	asked(t, row(one, two, sum), 9, api.ErrLimb, []api.Ival{unit, unit, top}, []api.Ival{unit, top, top})
	asked(t, row(one, two, sum), 9, api.ErrExp, []api.Ival{unit, top, unit}, []api.Ival{unit, top, top})
	// At order 2 there are 1, -2^MaxExp and 2^MaxExp squared: the sum of the first two ahead of the last product. From the other side that is the first.
	x, y = []api.Ival{unit, less, top}, []api.Ival{top, top, unit}
	atLast(t, row(one, two, line(api.OMul, 0, 1)), api.ErrLimb, x, y)
	atLast(t, row(one, two, line(api.OMul, 1, 0)), api.ErrExp, x, y)
	// At order 2 there are 1 less -2^MaxExp, then 2^MaxExp squared.
	atLast(t, row(one, two, line(api.ODiv, 0, 1)), api.ErrLimb, []api.Ival{top, zero, unit}, []api.Ival{unit, unit, top})
	atLast(t, row(one, two, line(api.ODiv, 0, 1)), api.ErrExp, []api.Ival{top, zero, top}, []api.Ival{unit, unit, top})
	// At order 4 there are 1 less some -2^(MaxExp - 4000), then 2^(MaxExp/2 + 10) squared.
	x = []api.Ival{only(1, -2), only(1, maxExp/4-2000), only(1, maxExp/2+10), zero, unit}
	atLast(t, row(one, line(api.OSqrt, 0, 0)), api.ErrLimb, x)
	x[4] = zero
	atLast(t, row(one, line(api.OSqrt, 0, 0)), api.ErrExp, x)
	// At order 8 there are 3 times 2^5000, 4, as much as the first, and 8 times 2^MaxExp.
	x = []api.Ival{zero, zero, zero, wide, unit, unit, zero, zero, top}
	atLast(t, row(one, line(api.OExp, 0, 0)), api.ErrLimb, x)
	x[3] = unit
	atLast(t, row(one, line(api.OExp, 0, 0)), api.ErrExp, x)
}

// TestSolveFirst: of several errors that of the least order is told, of one order's the first line's; the quotients' behind all lines'.
func TestSolveFirst(t *testing.T) {
	at, zero, unit := line(api.OTime, 0, 0), number(api.Ival{}), number(only(1, 0))
	top, low := number(only(1, maxExp)), number(only(1, -maxExp))
	domain := row(zero, unit, line(api.ODiv, 1, 0))
	// At order 1: 1 and 2^MaxExp.
	far := row(at, top, line(api.OMul, 0, 1), line(api.OAdd, 0, 2))
	for i, c := range []struct {
		lines          []api.Line
		out            int
		x, t           api.Ival
		k, bits, wrong int
	}{
		// Where the states begin is rounded whatever the order, ahead of all lines; of no line is order 0 of a state.
		{row(zero), 0, huge(), only(0, 0), 0, 1, api.ErrExp},
		{row(zero), 0, huge(), only(0, 0), 0, 2, api.OK},
		{domain, 0, huge(), only(0, 0), 1, 1, api.ErrExp},
		{domain, 0, only(1, 0), only(0, 0), 1, 1, api.ErrDomain},
		{domain, 0, only(1, 0), only(0, 0), 0, 1, api.OK},
		// The time is rounded only where a line asks for it.
		{row(zero), 0, only(1, 0), huge(), 3, 1, api.OK},
		{row(at), 0, only(1, 0), huge(), 0, 1, api.OK},
		{row(at), 0, only(1, 0), huge(), 1, 1, api.ErrExp},
		{row(at), 0, only(1, 0), huge(), 1, 2, api.OK},
		// Order 1 of a state is of order 0 of the lines, its order 2 of their order 1.
		{far, 2, only(1, 0), only(0, 0), 1, 9, api.OK},
		{far, 2, only(1, 0), only(0, 0), 2, 9, api.ErrLimb},
		{row(at, line(api.OSqrt, 0, 0)), 1, only(1, 0), only(0, 0), 1, 9, api.OK},
		{row(at, line(api.OSqrt, 0, 0)), 1, only(1, 0), only(0, 0), 2, 9, api.ErrDomain},
		// The first line's, also if no out leans on it.
		{slices.Concat(far, row(line(api.OSqrt, 0, 0))), 0, only(1, 0), only(0, 0), 2, 9, api.ErrLimb},
		{row(at, line(api.OSqrt, 0, 0), top, line(api.OMul, 0, 2), line(api.OAdd, 0, 3)), 0, only(1, 0), only(0, 0), 2, 9, api.ErrDomain},
		// Order 1 of a line behind order 0 of all.
		{slices.Concat(far, row(zero, unit, line(api.ODiv, 5, 4))), 0, only(1, 0), only(0, 0), 2, 9, api.ErrDomain},
		// Half of 2^-MaxExp: behind the lines of its order, ahead of the next order's.
		{row(at, low, line(api.OMul, 0, 1)), 2, only(1, 0), only(0, 0), 1, 9, api.OK},
		{row(at, low, line(api.OMul, 0, 1)), 2, only(1, 0), only(0, 0), 2, 9, api.ErrExp},
		{row(at, low, line(api.OMul, 0, 1), line(api.OSqrt, 0, 0)), 2, only(1, 0), only(0, 0), 2, 9, api.ErrDomain},
		{row(at, low, line(api.OMul, 0, 1), line(api.OSqr, 0, 0), top, line(api.OMul, 3, 4), line(api.OAdd, 3, 5)), 2, only(1, 0), only(0, 0), 3, 9, api.ErrExp},
		{row(at, low, line(api.OMul, 0, 1), line(api.OSqr, 0, 0), top, line(api.OMul, 3, 4), line(api.OAdd, 3, 5)), 0, only(1, 0), only(0, 0), 3, 9, api.ErrLimb},
	} {
		q := posed{api.Tape{Lines: c.lines, Outs: []int{c.out}}, c.t, []api.Ival{c.x}, nil, c.k, c.bits}
		q.ask(t, c.wrong)
		if solve(t, q.f, q.t, q.x, q.p, q.k, q.bits) != c.wrong {
			t.Error(i)
		}
	}
	// A parameter is rounded only where a line asks for it, too.
	for _, c := range []struct{ par, wrong int }{{0, api.OK}, {1, api.ErrExp}} {
		f := api.Tape{Lines: row(line(api.OPar, c.par, 0)), Outs: []int{0}}
		posed{f, only(0, 0), onlys(1), []api.Ival{only(1, 0), huge()}, 2, 1}.ask(t, c.wrong)
	}
	// Of no states there is nothing to divide, but lines have errors all the same.
	posed{api.Tape{Lines: domain}, only(0, 0), nil, nil, 1, 9}.ask(t, api.ErrDomain)
	posed{api.Tape{Lines: domain}, only(0, 0), nil, nil, 0, 9}.ask(t, api.OK)
}

// limbs are all lists of limbs of these.
func limbs(rows ...[]api.Ival) [][]uint64 {
	var ms [][]uint64
	for _, a := range slices.Concat(rows...) {
		ms = append(ms, a.Lo.M, a.Hi.M)
	}
	return ms
}

// withRoom is a copy of these, with room behind them and behind their limbs that an append would write to.
func withRoom(these []api.Ival) []api.Ival {
	all := make([]api.Ival, 0, len(these)+maxOrder+2)
	for _, a := range these {
		a.Lo.M = append(make([]uint64, 0, 8), a.Lo.M...)
		a.Hi.M = append(make([]uint64, 0, 8), a.Hi.M...)
		all = append(all, a)
	}
	return all
}

// withRooms is so of rows.
func withRooms(rows [][]api.Ival) [][]api.Ival {
	all := make([][]api.Ival, 0, len(rows)+8)
	for _, these := range rows {
		all = append(all, withRoom(these))
	}
	return all
}

// changed tells whether what came of withRoom is something else by now.
func changed(got, want []api.Ival) bool {
	for i, m := range limbs(want) {
		g := limbs(got)[i]
		if !slices.Equal(g[:8], append(slices.Clone(m), make([]uint64, 8-len(m))...)) {
			return true
		}
	}
	return !equals(got, want) || !equals(got[len(got):cap(got)], make([]api.Ival, cap(got)-len(got)))
}

// changes tells so of rows.
func changes(got, want [][]api.Ival) bool {
	if len(got) != len(want) || slices.ContainsFunc(got[len(got):cap(got)], func(row []api.Ival) bool { return row != nil }) {
		return true
	}
	for i := range want {
		if changed(got[i], want[i]) {
			return true
		}
	}
	return false
}

// constants are the K of a tape's lines.
func constants(f api.Tape) []api.Ival {
	var ks []api.Ival
	for _, l := range f.Lines {
		ks = append(ks, l.K)
	}
	return ks
}

// tapeWithRoom is a copy of f, with room as of withRoom.
func tapeWithRoom(f api.Tape) api.Tape {
	g := api.Tape{Lines: append(make([]api.Line, 0, len(f.Lines)+1), f.Lines...), Outs: append(make([]int, 0, len(f.Outs)+1), f.Outs...)}
	for i, k := range withRoom(constants(f)) {
		g.Lines[i].K = k
	}
	return g
}

// tapeChanged tells whether what came of tapeWithRoom is something else by now.
func tapeChanged(got, want api.Tape) bool {
	ks := withRoom(constants(got))
	for i, l := range got.Lines {
		ks[i] = l.K
	}
	same := slices.EqualFunc(got.Lines, want.Lines, func(a, b api.Line) bool { return a.Op == b.Op && a.A == b.A && a.B == b.B })
	return !same || !slices.Equal(got.Outs, want.Outs) || changed(ks, constants(want)) || got.Lines[:len(got.Lines)+1][len(got.Lines)].Op != 0 || got.Outs[:len(got.Outs)+1][len(got.Outs)] != 0
}

// spoil overwrites m and the room behind it.
func spoil(m []uint64) {
	m = m[:cap(m)]
	for i := range m {
		m[i] = 0xbad
	}
}

// spoilRow overwrites a row and the room behind it, but not its limbs.
func spoilRow(row []api.Ival) {
	row = row[:cap(row)]
	for i := range row {
		row[i] = api.Ival{Lo: api.Dyad{E: 0xbad}}
	}
}

// apart spoils the lists of an answer one by one: the others stay as they are.
func apart(t *testing.T, rows [][]api.Ival, r *rand.Rand) {
	t.Helper()
	ms := limbs(rows...)
	r.Shuffle(len(ms), func(i, j int) { ms[i], ms[j] = ms[j], ms[i] })
	for i, m := range ms {
		var rest [][]uint64
		for _, o := range ms[i+1:] {
			rest = append(rest, slices.Clone(o))
		}
		spoil(m)
		for j, o := range ms[i+1:] {
			if !slices.Equal(o, rest[j]) {
				t.Fatal("two lists of one answer share limbs")
			}
		}
	}
	for i := range rows {
		var rest [][]api.Ival
		for _, o := range rows[i+1:] {
			rest = append(rest, slices.Clone(o))
		}
		spoilRow(rows[i])
		if !slices.EqualFunc(rows[i+1:], rest, equals) {
			t.Fatal("two rows of one answer share memory")
		}
	}
}

// seriesMemory asks Series twice: what it is given stays as it is, and what it answered too, whatever becomes of that.
func seriesMemory(t *testing.T, g given, r *rand.Rand) {
	t.Helper()
	want, _ := jet.Series(g.t, g.time, g.x, g.p, g.k, g.bits)
	f, time, x, p := tapeWithRoom(g.t), withRoom(g.time), withRooms(g.x), withRooms(g.p)
	got, _ := jet.Series(f, time, x, p, g.k, g.bits)
	if tapeChanged(f, g.t) || changed(time, g.time) || changes(x, g.x) || changes(p, g.p) {
		t.Fatalf("Series changed what it was given: %v", g)
	}
	for _, m := range limbs(slices.Concat([][]api.Ival{constants(f), time}, x, p)...) {
		spoil(m)
	}
	for _, these := range slices.Concat([][]api.Ival{time}, x, p) {
		spoilRow(these)
	}
	if !slices.EqualFunc(got, want, equals) {
		t.Fatalf("Series of %v: the answer shares memory", g)
	}
	apart(t, got, r)
}

// solveMemory asks Solve so.
func solveMemory(t *testing.T, q posed, r *rand.Rand) {
	t.Helper()
	want, _ := jet.Solve(q.f, q.t, q.x, q.p, q.k, q.bits)
	f, at, x, p := tapeWithRoom(q.f), withRoom([]api.Ival{q.t}), withRoom(q.x), withRoom(q.p)
	got, _ := jet.Solve(f, at[0], x, p, q.k, q.bits)
	if tapeChanged(f, q.f) || changed(at, []api.Ival{q.t}) || changed(x, q.x) || changed(p, q.p) {
		t.Fatalf("Solve changed what it was given: %v", q)
	}
	for _, m := range limbs(constants(f), at, x, p) {
		spoil(m)
	}
	spoilRow(x)
	spoilRow(p)
	if !slices.EqualFunc(got, want, equals) {
		t.Fatalf("Solve of %v: the answer shares memory", q)
	}
	apart(t, got, r)
}

// TestMemory: what is handed in is not changed, and what is answered is the caller's own, each list of it by itself.
func TestMemory(t *testing.T) {
	r := maker(5)
	for range 300 {
		k, bits := r.IntN(5), 1+r.IntN(most)
		f := grow(r, 1+r.IntN(9), 2, 2, 3, ops(), func() api.Ival { return between(r, made) })
		f.Outs = append(f.Outs, f.Outs...)
		seriesMemory(t, given{f, list(r, k+1, made), lists(r, 2, k+1, made), lists(r, 2, k+1, made), k, bits}, r)
		f.Outs = f.Outs[:2]
		solveMemory(t, posed{f, between(r, made), list(r, 2, made), list(r, 2, made), k, bits}, r)
	}
	// Each line of what is short enough as it is, told twice; of one list that stands for all.
	f := api.Tape{Lines: row(number(span(1, 1, 0)), line(api.OTime, 0, 0), line(api.OState, 0, 0), line(api.OPar, 0, 0), line(api.ONeg, 0, 0), line(api.OAdd, 2, 3)), Outs: []int{0, 1, 2, 3, 4, 5, 0, 1, 2, 3, 4, 5}}
	these := []api.Ival{span(3, 5, 0), only(1, 0), {}}
	seriesMemory(t, given{f, these, [][]api.Ival{these, these}, [][]api.Ival{these}, 2, 64}, r)
	for line := range f.Lines {
		f.Outs = []int{line, line, line}
		solveMemory(t, posed{f, these[0], these, these, 4, 64}, r)
	}
}

// wild makes a tape that may be, with up to two parts of it changed to anything.
func wild(r *rand.Rand, x, p int, edges []int) api.Tape {
	f := grow(r, 1+r.IntN(6), x, p, x, ops(), func() api.Ival { return between(r, far) })
	edge := func() int { return edges[r.IntN(len(edges))] }
	for range r.IntN(3) {
		i := r.IntN(len(f.Lines))
		switch r.IntN(4) {
		case 0:
			f.Lines[i].Op = edge()
		case 1:
			f.Lines[i].A = edge()
		case 2:
			f.Lines[i].B = edge()
		case 3:
			f.Outs = append(f.Outs, edge())
		}
	}
	return f
}

// holdsBits holds an answer of any arguments against what each must be: so many rows, of so many coefficients that may be, with so many bits; or nothing beside an error.
func holdsBits(t *testing.T, rows [][]api.Ival, code, n, k, bits int) {
	t.Helper()
	if code != api.OK {
		if len(rows) != 0 {
			t.Fatalf("%v beside the error %d", rows, code)
		}
		return
	}
	if len(rows) != n {
		t.Fatalf("%d rows, not %d", len(rows), n)
	}
	for _, these := range rows {
		if len(these) != k+1 {
			t.Fatalf("%d coefficients, not %d", len(these), k+1)
		}
		for _, a := range these {
			if !ival.May(a) || round.Bits(a.Lo) > bits || round.Bits(a.Hi) > bits {
				t.Fatalf("%v to %d bits", a, bits)
			}
		}
	}
}

// TestWild: of any arguments whatever no call panics, and the same have the same answer.
func TestWild(t *testing.T) {
	r := maker(6)
	edges := []int{0, 1, 2, 3, 4, 5, 6, 9, 10, 13, 14, -1, 200, maxExp, math.MaxInt, math.MinInt}
	codes := codesOf{}
	for range 20000 {
		x, p, k, bits := r.IntN(3), r.IntN(3), r.IntN(6)-1, r.IntN(most+9)
		f := wild(r, x, p, edges)
		g := given{f, list(r, k+1, far), lists(r, x, max(k+1, 0), far), lists(r, p, max(k+1, 0), far), k, bits}
		q := posed{f, between(r, far), list(r, x, far), list(r, p, far), k, bits}
		if r.IntN(9) == 0 {
			g.k, q.k = edges[r.IntN(len(edges))], edges[r.IntN(len(edges))]
		}
		if r.IntN(9) == 0 {
			q.t.Hi = badDyads[r.IntN(len(badDyads))]
			g.time = append(g.time, q.t)
		}
		rows, code := jet.Series(g.t, g.time, g.x, g.p, g.k, g.bits)
		holdsBits(t, rows, code, len(f.Outs), g.k, bits)
		again, c := jet.Series(g.t, g.time, g.x, g.p, g.k, g.bits)
		if c != code || !slices.EqualFunc(again, rows, equals) {
			t.Fatalf("Series of %v: %v, %d, then %v, %d", g, rows, code, again, c)
		}
		codes[code]++
		rows, code = jet.Solve(q.f, q.t, q.x, q.p, q.k, q.bits)
		holdsBits(t, rows, code, x, q.k, bits)
		codes[code]++
	}
	codes.ask(t, 500, api.OK, api.ErrArg, api.ErrDomain, api.ErrLimb, api.ErrExp)
}
