package slope_test

import (
	"math"
	"math/rand/v2"
	"slices"
	"testing"

	"sluiceway/api"
	"sluiceway/ival"
	"sluiceway/round"
	"sluiceway/slope"
	"sluiceway/tape"
)

// badPrecs are numbers of bits that may not be.
var badPrecs = []int{0, -1, most + 1, api.MaxPrec, math.MaxInt, math.MinInt}

// badDyads are Dyads that may not be, each for one reason.
var badDyads = []api.Dyad{
	{Neg: true},
	{E: 1},
	{M: []uint64{0}},
	{M: []uint64{6}},
	{M: []uint64{0, 1}, Neg: true},
	{M: []uint64{1, 0}},
	{M: slices.Repeat([]uint64{1}, api.MaxLimbs+1)},
	{M: []uint64{1}, E: maxExp + 1},
	{M: []uint64{1}, E: -maxExp - 1, Neg: true},
	{M: []uint64{3}, E: math.MinInt},
}

// bad are intervals that may not be: for an end, or for their order.
func bad() []api.Ival {
	var all []api.Ival
	for _, d := range badDyads {
		all = append(all, from(d, d), from(of(-9, 0), d), from(d, of(9, 0)))
	}
	return append(all, span(3, 1, 0), span(1, 0, 0), span(0, -1, -maxExp))
}

// badTapes are tapes that may not be for two states, inputs and parameters, each for one reason.
func badTapes() []api.Tape {
	time := line(api.OTime, 0, 0)
	all := []api.Tape{
		{Lines: slices.Repeat(row(time), maxLines+1), Outs: []int{0, 0}},
		{Lines: row(time), Outs: make([]int, maxLines+1)},
		{Lines: row(time), Outs: []int{0, 1}},
		{Lines: row(time), Outs: []int{-1, 0}},
		{Outs: []int{0, 0}},
	}
	lines := row(line(0, 0, 0), line(14, 0, 0), line(api.OTime, 1, 0), line(api.OTime, 0, 1), line(api.OState, -1, 0), line(api.OState, 2, 0), line(api.OState, math.MaxInt, 0), line(api.OState, 0, 1), line(api.OIn, 2, 0), line(api.OIn, -1, 0), line(api.OPar, 2, 0), line(api.OPar, math.MinInt, 0), line(api.OAdd, 0, 1), line(api.OSub, 1, 0), line(api.OMul, -1, 0), line(api.ODiv, 0, 2), line(api.ONeg, 1, 0), line(api.OSqrt, 0, -1), line(api.OExp, math.MinInt, 0), api.Line{Op: api.OConst, A: 1}, api.Line{Op: api.OTime, K: only(1, 0)})
	for _, k := range bad() {
		lines = append(lines, number(k))
	}
	for _, l := range lines {
		all = append(all, api.Tape{Lines: row(time, l, time), Outs: []int{0, 0}})
	}
	return all
}

// given is what Grad is given.
type given struct {
	t api.Tape
	e api.Env
	p int
}

// right is what may be: a tape with two states, inputs and parameters.
func right() given {
	two := func() []api.Ival { return []api.Ival{only(1, 0), span(3, 4, 0)} }
	f := api.Tape{Lines: row(line(api.OTime, 0, 0), line(api.OState, 1, 0), line(api.OIn, 1, 0), line(api.OPar, 1, 0)), Outs: []int{1, 2}}
	return given{f, api.Env{T: span(1, 2, 0), X: two(), U: two(), P: two()}, 53}
}

// ask holds Grad against a code, with nothing beside an error.
func (g given) ask(t *testing.T, code int) {
	t.Helper()
	if v, d, c := slope.Grad(g.t, g.e, g.p); c != code || code != api.OK && len(v)+len(d) != 0 {
		t.Errorf("Grad of %v: %v, %v, %d; want %d", g, v, d, c, code)
	}
}

// with is g with something else.
func (g given) with(change func(g *given)) given {
	change(&g)
	return g
}

// TestWrong hands over what may not be, one beside what may: also what no line asks for.
func TestWrong(t *testing.T) {
	right().ask(t, api.OK)
	for _, p := range badPrecs {
		right().with(func(g *given) { g.p = p }).ask(t, api.ErrArg)
		given{p: p}.ask(t, api.ErrArg)
	}
	for _, p := range []int{1, most} {
		right().with(func(g *given) { g.p = p }).ask(t, api.OK)
		given{p: p}.ask(t, api.OK)
	}
	for _, f := range badTapes() {
		right().with(func(g *given) { g.t = f }).ask(t, api.ErrArg)
	}
	for _, a := range bad() {
		right().with(func(g *given) { g.e.T = a }).ask(t, api.ErrArg)
		for i := range 2 {
			right().with(func(g *given) { g.e.X[i] = a }).ask(t, api.ErrArg)
			right().with(func(g *given) { g.e.U[i] = a }).ask(t, api.ErrArg)
			right().with(func(g *given) { g.e.P[i] = a }).ask(t, api.ErrArg)
		}
	}
	// One less than the tape names; and more than it names.
	right().with(func(g *given) { g.e.X = g.e.X[:1] }).ask(t, api.ErrArg)
	right().with(func(g *given) { g.e.U = g.e.U[:1] }).ask(t, api.ErrArg)
	right().with(func(g *given) { g.e.P = g.e.P[:1] }).ask(t, api.ErrArg)
	right().with(func(g *given) { g.e.X, g.e.U, g.e.P = onlys(1, 2, 3), onlys(1, 2, 3), onlys(1, 2, 3) }).ask(t, api.OK)
	// Ahead of a line that has no value, and of one that has no derivative.
	for _, l := range row(line(api.ODiv, 0, 0), line(api.OSqrt, 0, 0)) {
		none := api.Tape{Lines: row(number(api.Ival{}), l)}
		right().with(func(g *given) { g.t = none }).ask(t, api.ErrDomain)
		right().with(func(g *given) { g.t, g.p = none, most+1 }).ask(t, api.ErrArg)
		right().with(func(g *given) { g.t, g.e.P[0] = none, bad()[0] }).ask(t, api.ErrArg)
		right().with(func(g *given) { g.t = api.Tape{Lines: append(none.Lines, line(api.OState, 2, 0))} }).ask(t, api.ErrArg)
	}
}

// ask holds an operation that has a value against a code.
func (q posed) ask(t *testing.T, code int) {
	t.Helper()
	f, e := q.tape()
	if _, none := tape.Lines(f, e, q.bits); none != api.OK {
		t.Errorf("%v has no value: %d", q, none)
	}
	for _, outs := range [][]int{nil, {0}, {9}, all(10)} {
		// Of all lines, whether an out leans on them or not.
		f.Outs = outs
		given{f, e, q.bits}.ask(t, code)
		hold(t, f, e, q.bits)
	}
	// By no state there is nothing that could have no value; by one that no line asks for all is nought, but a root's divisor is what it is.
	f.Lines[0] = number(api.Ival{})
	given{f, api.Env{P: e.P}, q.bits}.ask(t, api.OK)
	if code != api.ErrDomain {
		code = api.OK
	}
	given{f, e, q.bits}.ask(t, code)
}

// TestErrors: what has no derivative, of each operation, though it has a value.
func TestErrors(t *testing.T) {
	top, low, wide, unit, none := only(1, maxExp), only(1, -maxExp), only(1, 5000), only(1, 0), api.Ival{}
	for i, c := range []struct {
		posed
		code int
	}{
		// Sums of derivatives.
		{posed{api.OAdd, 9, unit, unit, unit, top}, api.ErrLimb},
		{posed{api.OAdd, 9, unit, top, unit, top}, api.ErrExp},
		{posed{api.OAdd, 9, unit, top, unit, none}, api.OK},
		{posed{api.OSub, 9, unit, unit, unit, top}, api.ErrLimb},
		{posed{api.OSub, 9, unit, top, unit, only(-1, maxExp)}, api.ErrExp},
		{posed{api.OSub, 9, unit, top, unit, top}, api.OK},
		{posed{api.ONeg, 1, unit, from(of(-1, maxExp), of(1, maxExp)), unit, top}, api.OK},
		// Products: each of the two, then their sum.
		{posed{api.OMul, 9, unit, top, only(2, 0), unit}, api.ErrExp},
		{posed{api.OMul, 9, unit, low, only(1, -1), unit}, api.ErrExp},
		{posed{api.OMul, 9, only(2, 0), unit, unit, top}, api.ErrExp},
		{posed{api.OMul, 9, only(1, -1), unit, unit, low}, api.ErrExp},
		{posed{api.OMul, 9, unit, unit, unit, top}, api.ErrLimb},
		{posed{api.OMul, 9, unit, wide, unit, unit}, api.ErrLimb},
		{posed{api.OMul, 9, unit, top, unit, top}, api.ErrExp},
		{posed{api.OMul, 9, none, unit, unit, top}, api.OK},
		// Both products ahead of the sum of them.
		{posed{api.OMul, 9, only(2, 0), wide, unit, top}, api.ErrExp},
		// Quotients: the product by the value, what is less by it, and that divided.
		{posed{api.ODiv, 9, only(2, 0), unit, unit, top}, api.ErrExp},
		{posed{api.ODiv, 9, unit, unit, unit, top}, api.ErrLimb},
		{posed{api.ODiv, 9, unit, top, unit, only(-1, maxExp)}, api.ErrExp},
		{posed{api.ODiv, 9, unit, low, only(2, 0), none}, api.ErrExp},
		{posed{api.ODiv, 9, unit, top, only(1, -1), none}, api.ErrExp},
		{posed{api.ODiv, 9, none, low, unit, top}, api.OK},
		// By the value, not by the dividend: half of the greatest there is.
		{posed{api.ODiv, 9, only(2, 0), top, only(4, 0), top}, api.OK},
		// Squares: twice the value times the derivative.
		{posed{api.OSqr, 9, only(1, -1), top, unit, unit}, api.OK},
		{posed{api.OSqr, 9, unit, top, unit, unit}, api.ErrExp},
		{posed{api.OSqr, 9, only(1, -2), low, unit, unit}, api.ErrExp},
		{posed{api.OSqr, 9, only(1, maxExp/2), unit, unit, unit}, api.OK},
		// Roots: of what may be 0 there is none, though nothing rises there; all is divided at once.
		{posed{api.OSqrt, 9, span(0, 4, 0), unit, unit, unit}, api.ErrDomain},
		{posed{api.OSqrt, 9, span(0, 4, 0), none, unit, unit}, api.ErrDomain},
		{posed{api.OSqrt, 9, none, none, unit, unit}, api.ErrDomain},
		{posed{api.OSqrt, 9, low, none, unit, unit}, api.OK},
		{posed{api.OSqrt, 9, unit, low, unit, unit}, api.ErrExp},
		{posed{api.OSqrt, 9, only(1, -2), low, unit, unit}, api.OK},
		{posed{api.OSqrt, 9, only(1, -2), top, unit, unit}, api.OK},
		{posed{api.OSqrt, 9, only(1, -4), top, unit, unit}, api.ErrExp},
		// Powers of e: the value times the derivative.
		{posed{api.OExp, 9, none, top, unit, unit}, api.OK},
		{posed{api.OExp, 2, unit, top, unit, unit}, api.ErrExp},
		{posed{api.OExp, 2, only(-1, 0), low, unit, unit}, api.ErrExp},
	} {
		if c.ask(t, c.code); t.Failed() {
			t.Fatal(i)
		}
	}
}

// TestFirst: of several errors that of a value is told, whichever line's; else the first line's, whichever state's; of one line's that of the first state.
func TestFirst(t *testing.T) {
	unit, top := only(1, 0), only(1, maxExp)
	// By each of four states a line, which is 0 as they are, has the derivative of the parameter.
	begin := row(line(api.OState, 0, 0), line(api.OState, 1, 0), line(api.OState, 2, 0), line(api.OState, 3, 0), number(top))
	begin = append(begin, line(api.OMul, 0, 4), line(api.OMul, 1, 4), line(api.OMul, 2, 4))
	tops := len(begin) - 3
	sum := func(a, b int) api.Line { return line(api.OAdd, a, b) }
	// By the state 1 there are 1 and 2^MaxExp, by the state 2 2^MaxExp twice.
	limb, exp := sum(1, tops+1), sum(tops+2, tops+2)
	root := line(api.OSqrt, 0, 0)
	for i, c := range []struct {
		lines []api.Line
		code  int
	}{
		{row(limb), api.ErrLimb},
		{row(exp), api.ErrExp},
		{row(root), api.ErrDomain},
		{row(limb, exp, root), api.ErrLimb},
		{row(exp, limb, root), api.ErrExp},
		{row(root, exp, limb), api.ErrDomain},
		{row(exp, root, limb), api.ErrExp},
		// A value's is told ahead of all derivatives'.
		{row(limb, exp, number(only(65, 0)), line(api.OExp, 10, 0)), api.ErrDomain},
		{row(root, number(only(1, -401)), line(api.OExp, 9, 0)), api.ErrLimb},
		{row(limb, line(api.OMul, 4, 4)), api.ErrExp},
		// In one line: by the state 0 2^MaxExp twice, by the state 1 1 and 2^MaxExp, and the other way about.
		{row(sum(tops, 1), sum(tops, tops+1), sum(8, 9)), api.ErrExp},
		{row(sum(0, tops+1), sum(tops, tops+1), sum(8, 9)), api.ErrLimb},
	} {
		f, e := api.Tape{Lines: slices.Concat(begin, c.lines)}, api.Env{X: onlys(0, 0, 0, 0), P: []api.Ival{unit}}
		given{f, e, 9}.ask(t, c.code)
		if hold(t, f, e, 9) != c.code {
			t.Error(i)
		}
	}
}

// limbs are all lists of limbs of these.
func limbs(rows ...[]api.Ival) [][]uint64 {
	var ms [][]uint64
	for _, a := range slices.Concat(rows...) {
		ms = append(ms, a.Lo.M, a.Hi.M)
	}
	return ms
}

// withRoom is a copy of these, with room behind them and behind their limbs that an append would write to.
func withRoom(these []api.Ival) []api.Ival {
	all := make([]api.Ival, 0, len(these)+8)
	for _, a := range these {
		a.Lo.M = append(make([]uint64, 0, 8), a.Lo.M...)
		a.Hi.M = append(make([]uint64, 0, 8), a.Hi.M...)
		all = append(all, a)
	}
	return all
}

// changed tells whether what came of withRoom is something else by now.
func changed(got, want []api.Ival) bool {
	for i, m := range limbs(want) {
		g := limbs(got)[i]
		if !slices.Equal(g[:8], append(slices.Clone(m), make([]uint64, 8-len(m))...)) {
			return true
		}
	}
	return !equals(got, want) || !equals(got[len(got):cap(got)], make([]api.Ival, cap(got)-len(got)))
}

// constants are the K of a tape's lines.
func constants(f api.Tape) []api.Ival {
	var ks []api.Ival
	for _, l := range f.Lines {
		ks = append(ks, l.K)
	}
	return ks
}

// tapeWithRoom is a copy of f, with room as of withRoom.
func tapeWithRoom(f api.Tape) api.Tape {
	g := api.Tape{Lines: append(make([]api.Line, 0, len(f.Lines)+1), f.Lines...), Outs: append(make([]int, 0, len(f.Outs)+1), f.Outs...)}
	for i, k := range withRoom(constants(f)) {
		g.Lines[i].K = k
	}
	return g
}

// tapeChanged tells whether what came of tapeWithRoom is something else by now.
func tapeChanged(got, want api.Tape) bool {
	ks := withRoom(constants(got))
	for i, l := range got.Lines {
		ks[i] = l.K
	}
	same := slices.EqualFunc(got.Lines, want.Lines, func(a, b api.Line) bool { return a.Op == b.Op && a.A == b.A && a.B == b.B })
	return !same || !slices.Equal(got.Outs, want.Outs) || changed(ks, constants(want)) || got.Lines[:len(got.Lines)+1][len(got.Lines)].Op != 0 || got.Outs[:len(got.Outs)+1][len(got.Outs)] != 0
}

// spoil overwrites m and the room behind it.
func spoil(m []uint64) {
	m = m[:cap(m)]
	for i := range m {
		m[i] = 0xbad
	}
}

// spoilRow overwrites a row and the room behind it, but not its limbs.
func spoilRow(row []api.Ival) {
	row = row[:cap(row)]
	for i := range row {
		row[i] = api.Ival{Lo: api.Dyad{E: 0xbad}}
	}
}

// apart spoils the lists of an answer one by one: the others stay as they are.
func apart(t *testing.T, rows [][]api.Ival, r *rand.Rand) {
	t.Helper()
	ms := limbs(rows...)
	r.Shuffle(len(ms), func(i, j int) { ms[i], ms[j] = ms[j], ms[i] })
	for i, m := range ms {
		var rest [][]uint64
		for _, o := range ms[i+1:] {
			rest = append(rest, slices.Clone(o))
		}
		spoil(m)
		for j, o := range ms[i+1:] {
			if !slices.Equal(o, rest[j]) {
				t.Fatal("two lists of one answer share limbs")
			}
		}
	}
	for i := range rows {
		var rest [][]api.Ival
		for _, o := range rows[i+1:] {
			rest = append(rest, slices.Clone(o))
		}
		spoilRow(rows[i])
		if !slices.EqualFunc(rows[i+1:], rest, equals) {
			t.Fatal("two rows of one answer share memory")
		}
	}
}

// memory asks Grad twice: what it is given stays as it is, and what it answered too, whatever becomes of that.
func memory(t *testing.T, g given, r *rand.Rand) {
	t.Helper()
	vals, slopes, _ := slope.Grad(g.t, g.e, g.p)
	f, ts, x, u, p := tapeWithRoom(g.t), withRoom([]api.Ival{g.e.T}), withRoom(g.e.X), withRoom(g.e.U), withRoom(g.e.P)
	v, d, _ := slope.Grad(f, api.Env{T: ts[0], X: x, U: u, P: p}, g.p)
	if tapeChanged(f, g.t) || changed(ts, []api.Ival{g.e.T}) || changed(x, g.e.X) || changed(u, g.e.U) || changed(p, g.e.P) {
		t.Fatalf("Grad changed what it was given: %v", g)
	}
	for _, m := range limbs(constants(f), ts, x, u, p) {
		spoil(m)
	}
	for _, these := range [][]api.Ival{x, u, p} {
		spoilRow(these)
	}
	if !equals(v, vals) || !slices.EqualFunc(d, slopes, equals) {
		t.Fatalf("Grad of %v: the answer shares memory", g)
	}
	apart(t, append(d, v), r)
}

// TestMemory: what is handed in is not changed, and what is answered is the caller's own, each list of it by itself.
func TestMemory(t *testing.T) {
	r := maker(7)
	for range 300 {
		f := grow(r, 1+r.IntN(9), 2, 2, 2, 3, ops(), func() api.Ival { return between(r, made) })
		f.Outs = append(f.Outs, f.Outs...)
		memory(t, given{f, env(r, 4, 2, 2, made), precision(r)}, r)
	}
	// Each line of what is short enough as it is, told twice, with states that no line asks for; of one list that stands for all.
	f := api.Tape{Lines: row(number(span(1, 1, 0)), line(api.OTime, 0, 0), line(api.OState, 2, 0), line(api.OIn, 0, 0), line(api.OPar, 0, 0), line(api.ONeg, 2, 0), line(api.OAdd, 2, 3), line(api.OSqrt, 2, 0))}
	f.Outs = slices.Concat(all(len(f.Lines)), all(len(f.Lines)))
	these := []api.Ival{span(3, 5, 0), only(1, 0), only(1, 0), {}}
	memory(t, given{f, api.Env{T: these[0], X: these, U: these, P: these}, 64}, r)
}

// wild makes a tape that may be, with up to two parts of it changed to anything.
func wild(r *rand.Rand, x, u, p int, edges []int) api.Tape {
	f := grow(r, 1+r.IntN(8), x, u, p, 3, ops(), func() api.Ival { return between(r, far) })
	edge := func() int { return edges[r.IntN(len(edges))] }
	for range r.IntN(3) {
		i := r.IntN(len(f.Lines))
		switch r.IntN(4) {
		case 0:
			f.Lines[i].Op = edge()
		case 1:
			f.Lines[i].A = edge()
		case 2:
			f.Lines[i].B = edge()
		case 3:
			f.Outs = append(f.Outs, edge())
		}
	}
	return f
}

// TestWild: of any arguments whatever no call panics, its answer has as many rows and derivatives as it must, of so many bits, and the same have the same answer.
func TestWild(t *testing.T) {
	r := maker(8)
	edges := []int{0, 1, 2, 3, 4, 5, 6, 9, 10, 13, 14, -1, 200, maxExp, math.MaxInt, math.MinInt}
	codes := codesOf{}
	for range 30000 {
		x, u, n, p := r.IntN(4), r.IntN(3), r.IntN(3), r.IntN(most+9)
		g := given{wild(r, x, u, n, edges), env(r, x, u, n, far), p}
		if r.IntN(9) == 0 {
			g.p = edges[r.IntN(len(edges))]
		}
		if r.IntN(9) == 0 {
			g.e.T.Hi = badDyads[r.IntN(len(badDyads))]
		}
		v, d, code := slope.Grad(g.t, g.e, g.p)
		codes[code]++
		w, again, c := slope.Grad(g.t, g.e, g.p)
		if c != code || !equals(v, w) || !slices.EqualFunc(again, d, equals) {
			t.Fatalf("Grad of %v: %v, %v, %d, then %v, %v, %d", g, v, d, code, w, again, c)
		}
		if code != api.OK {
			g.ask(t, code)
			continue
		}
		if len(v) != len(g.t.Outs) || len(d) != len(g.t.Outs) || slices.ContainsFunc(d, func(row []api.Ival) bool { return len(row) != x }) {
			t.Fatalf("Grad of %v: %v, %v", g, v, d)
		}
		for _, a := range slices.Concat(append(d, v)...) {
			if !ival.May(a) || round.Bits(a.Lo) > g.p || round.Bits(a.Hi) > g.p {
				t.Fatalf("%v to %d bits", a, g.p)
			}
		}
	}
	codes.ask(t, 500, api.OK, api.ErrArg, api.ErrDomain, api.ErrLimb, api.ErrExp)
}
