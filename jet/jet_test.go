package jet_test

import (
	"math/big"
	"math/rand/v2"
	"slices"
	"testing"

	"sluiceway/api"
	"sluiceway/arith"
	"sluiceway/expo"
	"sluiceway/ival"
	"sluiceway/jet"
)

const (
	maxExp   = api.MaxExp
	maxLines = api.MaxLines
	maxOrder = api.MaxOrder
	// most is how many bits may be asked for.
	most = 300
)

// precs are numbers of bits that may be.
var precs = []int{1, 2, 3, 20, 53, 64, 65, 299, most}

// is is the Dyad m times 2^e.
func is(m *big.Int, e int) api.Dyad {
	if m.Sign() == 0 {
		return api.Dyad{}
	}
	odd := new(big.Int).Abs(m)
	low := odd.TrailingZeroBits()
	d := api.Dyad{Neg: m.Sign() < 0, E: e + int(low)}
	for _, w := range odd.Rsh(odd, low).Bits() {
		d.M = append(d.M, uint64(w))
	}
	return d
}

// of is n times 2^e.
func of(n int64, e int) api.Dyad {
	return is(big.NewInt(n), e)
}

// from is from a to b.
func from(a, b api.Dyad) api.Ival {
	return api.Ival{Lo: a, Hi: b}
}

// span is from a to b, both times 2^e.
func span(a, b int64, e int) api.Ival {
	return from(of(a, e), of(b, e))
}

// only is n times 2^e alone.
func only(n int64, e int) api.Ival {
	return span(n, n, e)
}

// onlys are these whole numbers, each alone.
func onlys(ns ...int64) []api.Ival {
	var all []api.Ival
	for _, n := range ns {
		all = append(all, only(n, 0))
	}
	return all
}

// alike tells whether two Dyads have the same parts, without asking the program.
func alike(a, b api.Dyad) bool {
	return a.Neg == b.Neg && a.E == b.E && slices.Equal(a.M, b.M)
}

// equal tells whether two intervals have the same parts.
func equal(a, b api.Ival) bool {
	return alike(a.Lo, b.Lo) && alike(a.Hi, b.Hi)
}

// equals tells whether two series have the same parts.
func equals(a, b []api.Ival) bool {
	return slices.EqualFunc(a, b, equal)
}

// row are lines, one behind the other.
func row(lines ...api.Line) []api.Line {
	return lines
}

// line is a line with an A and a B.
func line(op, a, b int) api.Line {
	return api.Line{Op: op, A: a, B: b}
}

// number is a line of a constant.
func number(k api.Ival) api.Line {
	return api.Line{Op: api.OConst, K: k}
}

// all are the numbers from 0 to less than n.
func all(n int) []int {
	var ks []int
	for k := range n {
		ks = append(ks, k)
	}
	return ks
}

// maker makes the same numbers at each run.
func maker(seed uint64) *rand.Rand {
	return rand.New(rand.NewPCG(seed, 0))
}

// made is a Dyad of up to three limbs, of a size that the operations have a value for.
func made(r *rand.Rand) api.Dyad {
	m := new(big.Int)
	for range 1 + r.IntN(3) {
		m.Lsh(m, 64).Or(m, new(big.Int).SetUint64(r.Uint64()>>r.IntN(64)))
	}
	if r.IntN(2) == 0 {
		m.Neg(m)
	}
	return is(m, r.IntN(8)-m.BitLen())
}

// far is a Dyad of few bits whose E is at the edges of what sums and products hold.
func far(r *rand.Rand) api.Dyad {
	edges := []int{0, 0, 0, 0, 0, 0, 2100, -2100, 4090, -4090, maxExp / 2, -maxExp / 2, maxExp, -maxExp}
	odd := []int64{0, 1, -1, 3, -3, 5}
	return of(odd[r.IntN(len(odd))], min(max(edges[r.IntN(len(edges))]-1+r.IntN(3), -maxExp), maxExp))
}

// between is an interval of two Dyads that are made so, or of one.
func between(r *rand.Rand, dyad func(*rand.Rand) api.Dyad) api.Ival {
	a, b := dyad(r), dyad(r)
	if r.IntN(3) == 0 {
		b = a
	}
	if c, code := ival.Make(a, b); code == api.OK {
		return c
	}
	return from(b, a)
}

// list is n intervals of Dyads that are made so.
func list(r *rand.Rand, n int, dyad func(*rand.Rand) api.Dyad) []api.Ival {
	var s []api.Ival
	for range n {
		s = append(s, between(r, dyad))
	}
	return s
}

// lists are m lists of n intervals.
func lists(r *rand.Rand, m, n int, dyad func(*rand.Rand) api.Dyad) [][]api.Ival {
	var all [][]api.Ival
	for range m {
		all = append(all, list(r, n, dyad))
	}
	return all
}

// grow makes a tape of n lines of these operations, with x states and p parameters, and so many outs.
func grow(r *rand.Rand, n, x, p, outs int, ops []int, k func() api.Ival) api.Tape {
	var t api.Tape
	above := func() int {
		if r.IntN(2) == 0 {
			// One of the last lines, so that tapes are deep.
			return max(0, len(t.Lines)-1-r.IntN(3))
		}
		return r.IntN(len(t.Lines))
	}
	for len(t.Lines) < n {
		op := ops[r.IntN(len(ops))]
		switch {
		case op == api.OConst:
			t.Lines = append(t.Lines, number(k()))
		case op == api.OTime:
			t.Lines = append(t.Lines, line(op, 0, 0))
		case op == api.OState && x > 0:
			t.Lines = append(t.Lines, line(op, r.IntN(x), 0))
		case op == api.OPar && p > 0:
			t.Lines = append(t.Lines, line(op, r.IntN(p), 0))
		case slices.Contains([]int{api.OAdd, api.OSub, api.OMul, api.ODiv}, op) && len(t.Lines) > 0:
			t.Lines = append(t.Lines, line(op, above(), above()))
		case slices.Contains([]int{api.ONeg, api.OSqr, api.OSqrt, api.OExp}, op) && len(t.Lines) > 0:
			t.Lines = append(t.Lines, line(op, above(), 0))
		}
	}
	for n > 0 && len(t.Outs) < outs {
		t.Outs = append(t.Outs, r.IntN(n))
	}
	return t
}

// leaves are the operations that lean on no line, nodes the others.
var (
	leaves = []int{api.OConst, api.OTime, api.OState, api.OPar}
	nodes  = []int{api.OAdd, api.OSub, api.OMul, api.ODiv, api.ONeg, api.OSqr, api.OSqrt, api.OExp}
)

// ops are all operations but OIn.
func ops() []int {
	return slices.Concat(leaves, nodes)
}

// reference reckons at so many bits, up to the first error.
type reference struct{ bits, code int }

// one is what op makes of a.
func (s *reference) one(op func(a api.Ival, p int) (api.Ival, int), a api.Ival) api.Ival {
	var v api.Ival
	if s.code == api.OK {
		v, s.code = op(a, s.bits)
	}
	return v
}

// two is what op makes of a and b.
func (s *reference) two(op func(a, b api.Ival, p int) (api.Ival, int), a, b api.Ival) api.Ival {
	return s.one(func(a api.Ival, p int) (api.Ival, int) { return op(a, b, p) }, a)
}

// coefficient is the next of l, which has c by now, by the words of the chapter.
func (s *reference) coefficient(l api.Line, lines [][]api.Ival, c []api.Ival, time []api.Ival, x, p [][]api.Ival) api.Ival {
	n := len(c)
	switch l.Op {
	case api.OConst:
		return s.one(ival.Round, append([]api.Ival{l.K}, make([]api.Ival, n)...)[n])
	case api.OTime:
		return s.one(ival.Round, time[n])
	case api.OState:
		return s.one(ival.Round, x[l.A][n])
	case api.OPar:
		return s.one(ival.Round, p[l.A][n])
	}
	a, b := lines[l.A], lines[l.B]
	switch l.Op {
	case api.OAdd:
		return s.two(arith.Add, a[n], b[n])
	case api.OSub:
		return s.two(arith.Sub, a[n], b[n])
	case api.ONeg:
		return s.one(arith.Neg, a[n])
	case api.OSqr:
		if n == 0 {
			return s.one(arith.Sqr, a[0])
		}
		return s.convolved(a, a, n)
	case api.OMul:
		return s.convolved(a, b, n)
	}
	return s.inverse(l.Op, a, b, c)
}

// convolved is the sum over j from 0 to n of a_j b_(n-j).
func (s *reference) convolved(a, b []api.Ival, n int) api.Ival {
	v := s.two(arith.Mul, a[0], b[n])
	for j := 1; j <= n; j++ {
		v = s.two(arith.Add, v, s.two(arith.Mul, a[j], b[n-j]))
	}
	return v
}

// inverse is the next coefficient of what its own lower ones are asked for.
func (s *reference) inverse(op int, a, b, c []api.Ival) api.Ival {
	n := len(c)
	switch {
	case op == api.ODiv:
		v := a[n]
		for j := 1; j <= n; j++ {
			v = s.two(arith.Sub, v, s.two(arith.Mul, b[j], c[n-j]))
		}
		return s.two(arith.Div, v, b[0])
	case op == api.OSqrt && n == 0:
		return s.one(arith.Sqrt, a[0])
	case op == api.OSqrt:
		v := a[n]
		for j := 1; j <= n-1; j++ {
			v = s.two(arith.Sub, v, s.two(arith.Mul, c[j], c[n-j]))
		}
		return s.two(arith.Div, v, s.two(arith.Add, c[0], c[0]))
	case n == 0:
		return s.one(expo.Over, a[0])
	}
	v := s.two(arith.Mul, s.two(arith.Mul, only(1, 0), a[1]), c[n-1])
	for j := 2; j <= n; j++ {
		v = s.two(arith.Add, v, s.two(arith.Mul, s.two(arith.Mul, only(int64(j), 0), a[j]), c[n-j]))
	}
	return s.two(arith.Div, v, only(int64(n), 0))
}

// expected is what Series must answer of what may be.
func expected(t api.Tape, time []api.Ival, x, p [][]api.Ival, k, bits int) ([][]api.Ival, int) {
	s := &reference{bits: bits}
	var lines, outs [][]api.Ival
	for _, l := range t.Lines {
		var c []api.Ival
		for range k + 1 {
			c = append(c, s.coefficient(l, lines, c, time, x, p))
		}
		if s.code != api.OK {
			return nil, s.code
		}
		lines = append(lines, c)
	}
	for _, k := range t.Outs {
		outs = append(outs, lines[k])
	}
	return outs, api.OK
}

// padded is a and b and then noughts, n in all.
func padded(n int, ab ...api.Ival) []api.Ival {
	return append(ab, make([]api.Ival, n)...)[:n]
}

// solved is what Solve must answer of what may be: order by order by Series.
func solved(f api.Tape, t api.Ival, x, p []api.Ival, k, bits int) ([][]api.Ival, int) {
	s := &reference{bits: bits}
	var all [][]api.Ival
	for _, a := range x {
		all = append(all, []api.Ival{s.one(ival.Round, a)})
	}
	for n := 0; n < k && s.code == api.OK; n++ {
		var ps [][]api.Ival
		for _, a := range p {
			ps = append(ps, padded(n+1, a))
		}
		var ders [][]api.Ival
		ders, s.code = expected(f, padded(n+1, t, only(1, 0)), all, ps, n, bits)
		for i, d := range ders {
			all[i] = append(all[i], s.two(arith.Div, d[n], only(int64(n+1), 0)))
		}
	}
	if s.code != api.OK {
		return nil, s.code
	}
	return all, api.OK
}

// series holds Series against what it must answer, and tells the code.
func series(t *testing.T, f api.Tape, time []api.Ival, x, p [][]api.Ival, k, bits int) int {
	t.Helper()
	want, code := expected(f, time, x, p, k, bits)
	got, c := jet.Series(f, time, x, p, k, bits)
	if c != code || !slices.EqualFunc(got, want, equals) {
		t.Fatalf("Series of %v, %v, %v, %v up to %d to %d bits: %v, %d; want %v, %d", f, time, x, p, k, bits, got, c, want, code)
	}
	return c
}

// solve holds Solve against what it must answer, and tells the code.
func solve(t *testing.T, f api.Tape, at api.Ival, x, p []api.Ival, k, bits int) int {
	t.Helper()
	want, code := solved(f, at, x, p, k, bits)
	got, c := jet.Solve(f, at, x, p, k, bits)
	if c != code || !slices.EqualFunc(got, want, equals) {
		t.Fatalf("Solve of %v, %v, %v, %v up to %d to %d bits: %v, %d; want %v, %d", f, at, x, p, k, bits, got, c, want, code)
	}
	return c
}

// precision is a number of bits: any, or one at the edges.
func precision(r *rand.Rand) int {
	if r.IntN(2) == 0 {
		return precs[r.IntN(len(precs))]
	}
	return 1 + r.IntN(most)
}

// codesOf counts codes, and asks at the end for so many of each.
type codesOf map[int]int

func (c codesOf) ask(t *testing.T, least int, codes ...int) {
	t.Helper()
	for _, code := range codes {
		if c[code] < least {
			t.Errorf("code %d only %d times", code, c[code])
		}
	}
}

// TestSeries holds tapes of all kinds against the chapter's words.
func TestSeries(t *testing.T) {
	r := maker(1)
	codes := codesOf{}
	for i := range 2500 {
		n, x, p, k := r.IntN(9), r.IntN(4), r.IntN(4), r.IntN(maxOrder+1)
		if i%100 == 0 {
			n = r.IntN(maxLines + 1)
		}
		f := grow(r, n, x, p, r.IntN(6), ops(), func() api.Ival { return between(r, made) })
		codes[series(t, f, list(r, k+1, made), lists(r, x, k+1, made), lists(r, p, k+1, made), k, precision(r))]++
	}
	codes.ask(t, 300, api.OK, api.ErrDomain)
	for _, bits := range precs {
		for k := range maxOrder + 1 {
			time := list(r, k+1, made)
			series(t, api.Tape{}, time, nil, nil, k, bits)
			series(t, api.Tape{Lines: row(), Outs: []int{}}, time, [][]api.Ival{}, [][]api.Ival{}, k, bits)
			series(t, api.Tape{Lines: row(line(api.OTime, 0, 0))}, time, nil, nil, k, bits)
		}
	}
}

// TestSeriesEach holds each operation by itself against them: on wide and on narrow series, of points too.
func TestSeriesEach(t *testing.T) {
	r := maker(2)
	codes := codesOf{}
	for i := range 4000 {
		op := nodes[i%len(nodes)]
		k, x := r.IntN(maxOrder+1), lists(r, 2, maxOrder+1, made)
		for j := range x {
			x[j] = x[j][:k+1]
			if r.IntN(2) == 0 {
				// Above 0, so that it has a root and divides.
				x[j][0] = from(of(1+r.Int64N(9), -r.IntN(3)), of(10+r.Int64N(9), 0))
			}
		}
		f := api.Tape{Lines: row(line(api.OState, 0, 0), line(api.OState, 1, 0), line(op, r.IntN(2), r.IntN(2))), Outs: []int{2, 0, 1}}
		if op > api.ODiv {
			f.Lines[2].B = 0
		}
		codes[series(t, f, x[0], x, nil, k, precision(r))]++
	}
	codes.ask(t, 300, api.OK, api.ErrDomain)
}

// TestSeriesFar holds tapes against them where numbers are too far apart for a sum, or too great or small for a product.
func TestSeriesFar(t *testing.T) {
	r := maker(3)
	codes := codesOf{}
	for range 6000 {
		x, k := 1+r.IntN(3), r.IntN(6)
		f := grow(r, 2+r.IntN(5), x, 1, 2, ops(), func() api.Ival { return between(r, far) })
		codes[series(t, f, list(r, k+1, far), lists(r, x, k+1, far), lists(r, 1, k+1, far), k, precision(r))]++
	}
	codes.ask(t, 150, api.OK, api.ErrDomain, api.ErrLimb, api.ErrExp)
}

// TestSolve holds systems of all kinds against Series, order by order.
func TestSolve(t *testing.T) {
	r := maker(4)
	codes := codesOf{}
	for i := range 2000 {
		n, x, p, k := 1+r.IntN(9), r.IntN(5), r.IntN(3), r.IntN(maxOrder+1)
		one := made
		if i%2 == 0 {
			one = far
		}
		f := grow(r, n, x, p, x, ops(), func() api.Ival { return between(r, one) })
		codes[solve(t, f, between(r, one), list(r, x, one), list(r, p, one), k, precision(r))]++
	}
	codes.ask(t, 50, api.OK, api.ErrDomain, api.ErrLimb, api.ErrExp)
	// Nothing that is solved for.
	solve(t, api.Tape{}, only(3, 0), nil, nil, maxOrder, 20)
	solve(t, api.Tape{Lines: row(), Outs: []int{}}, only(3, 0), []api.Ival{}, []api.Ival{only(1, 0)}, 0, 20)
	// A long one, up to the last order.
	for _, ops := range [][]int{{api.OState, api.OTime, api.OAdd, api.OSub, api.ONeg}, ops()} {
		f := grow(r, maxLines, 6, 2, 6, ops, func() api.Ival { return between(r, made) })
		solve(t, f, between(r, made), list(r, 6, made), list(r, 2, made), maxOrder, 100)
	}
}

// TestExamples are those of the document.
func TestExamples(t *testing.T) {
	x := api.Tape{Lines: row(line(api.OState, 0, 0)), Outs: []int{0}}
	for _, bits := range precs {
		got, code := jet.Solve(x, api.Ival{}, onlys(1), nil, 2, bits)
		if want := []api.Ival{only(1, 0), only(1, 0), only(1, -1)}; code != api.OK || len(got) != 1 || !equals(got[0], want) {
			t.Errorf("x' = x to %d bits: %v, %d", bits, got, code)
		}
	}
	got, code := jet.Solve(x, api.Ival{}, onlys(1), nil, 5, 3)
	// 1/6, 1/24 and 1/120, to three bits; each is divided anew.
	want := []api.Ival{only(1, 0), only(1, 0), only(1, -1), span(5, 6, -5), span(5, 6, -7), span(4, 5, -9)}
	if code != api.OK || !equals(got[0], want) {
		t.Errorf("x' = x to 3 bits: %v, %d; want %v", got, code, want)
	}
}

// TestByHand is each operation, by numbers that are known; of few bits, so that one order of its sums has another answer than the next.
func TestByHand(t *testing.T) {
	half := func(n int64) api.Ival { return only(n, -1) }
	for i, c := range []struct {
		l    api.Line
		a, b []api.Ival
		bits int
		want []api.Ival
	}{
		{line(api.OAdd, 0, 1), onlys(1, 3, -4), onlys(4, 2, 1), 2, []api.Ival{span(4, 6, 0), span(4, 6, 0), only(-3, 0)}},
		{line(api.OSub, 0, 1), onlys(1, 3, -4), onlys(-4, -2, 1), 2, []api.Ival{span(4, 6, 0), span(4, 6, 0), span(-6, -4, 0)}},
		{line(api.ONeg, 0, 0), []api.Ival{span(-1, 2, 0), only(3, 0), {}}, nil, 2, []api.Ival{span(-2, 1, 0), only(-3, 0), {}}},
		// (1 + 1) + 6 is 8, where 1 + (1 + 6) is from 6 to 12.
		{line(api.OMul, 0, 1), onlys(1, 1, 2), onlys(3, 1, 1), 2, []api.Ival{only(3, 0), only(4, 0), only(8, 0)}},
		// (6 + 1) + 1 is from 6 to 12.
		{line(api.OMul, 1, 0), onlys(1, 1, 2), onlys(3, 1, 1), 2, []api.Ival{only(3, 0), only(4, 0), span(6, 12, 0)}},
		// A product is rounded by itself: 9 + 1 is 10, but from 8 to 12 and 1 is from 8 to 16.
		{line(api.OMul, 0, 1), onlys(3, 1), onlys(1, 3), 2, []api.Ival{only(3, 0), span(8, 16, 0)}},
		// (1 + 4) + 1 is from 4 to 8, where twice 1 and 4 are 6.
		{line(api.OSqr, 0, 0), onlys(1, 2, 1), nil, 2, []api.Ival{only(1, 0), only(4, 0), span(4, 8, 0)}},
		// Coefficient 0 alone is a square.
		{line(api.OSqr, 0, 0), []api.Ival{span(-1, 2, 0), {}, {}}, nil, 9, []api.Ival{span(0, 4, 0), {}, {}}},
		{line(api.OMul, 0, 0), []api.Ival{span(-1, 2, 0), {}, {}}, nil, 9, []api.Ival{span(-2, 4, 0), {}, {}}},
		{line(api.OSqr, 0, 0), []api.Ival{{}, span(-1, 2, 0), {}}, nil, 9, []api.Ival{{}, {}, span(-2, 4, 0)}},
		// (8 - 1) - 1 is from 4 to 8, where 8 - (1 + 1) is 6; (8 - 1) - 6 is from 0 to 2, where (8 - 6) - 1 is 1.
		{line(api.ODiv, 0, 1), onlys(1, 2, 8), onlys(1, 1, 1), 2, []api.Ival{only(1, 0), only(1, 0), span(4, 8, 0)}},
		{line(api.ODiv, 0, 1), onlys(1, 2, 8), onlys(1, 1, 6), 2, []api.Ival{only(1, 0), only(1, 0), span(0, 2, 0)}},
		// All is divided at last.
		{line(api.ODiv, 0, 1), onlys(3, 4, 0), onlys(3, 3, 3), 3, []api.Ival{only(1, 0), span(5, 6, -4), span(-7, -4, -2)}},
		{line(api.ODiv, 0, 1), onlys(4, 0), []api.Ival{span(-4, -2, 0), only(1, 0)}, 9, []api.Ival{span(-2, -1, 0), span(-4, -1, -2)}},
		// The root of 1/4 added to itself is 1: 8 - 1 - 1 again, where 8 - 2 is 6.
		{line(api.OSqrt, 0, 0), []api.Ival{only(1, -2), only(1, 0), only(2, 0), only(8, 0)}, nil, 2, []api.Ival{half(1), only(1, 0), only(1, 0), span(4, 8, 0)}},
		{line(api.OSqrt, 0, 0), []api.Ival{span(1, 4, 0), span(-8, 8, 0)}, nil, 9, []api.Ival{span(1, 2, 0), span(-4, 4, 0)}},
		{line(api.OSqrt, 0, 0), onlys(3, 1), nil, 2, []api.Ival{span(3, 4, -1), span(2, 3, -3)}},
		// (7/2 + 6) - 6 is from 2 to 4, where 7/2 + (6 - 6) is 7/2.
		{line(api.OExp, 0, 0), onlys(0, 1, 3, -2), nil, 3, []api.Ival{only(1, 0), only(1, 0), only(7, -1), span(5, 12, -3)}},
		// e to two bits.
		{line(api.OExp, 0, 0), onlys(1, 1, 0), nil, 2, []api.Ival{span(2, 3, 0), span(2, 3, 0), span(2, 3, -1)}},
	} {
		x := [][]api.Ival{c.a, c.b}
		if c.b == nil {
			x = x[:1]
		}
		f := api.Tape{Lines: row(line(api.OState, 0, 0), line(api.OState, len(x)-1, 0), c.l), Outs: []int{2}}
		got, code := jet.Series(f, make([]api.Ival, len(c.a)), x, nil, len(c.a)-1, c.bits)
		if code != api.OK || len(got) != 1 || !equals(got[0], c.want) {
			t.Errorf("%d: %v, %d; want %v", i, got, code, c.want)
		}
	}
}

// TestGiven is each operation that leans on no line: rounded each, a constant's behind the first nought.
func TestGiven(t *testing.T) {
	nine := func(e int) api.Ival { return span(9, 11, e) }
	rounded := func(e int) api.Ival { return span(8, 12, e) }
	time := []api.Ival{nine(0), nine(1), nine(2)}
	x := [][]api.Ival{{nine(3), nine(4), nine(5)}, {nine(6), nine(7), nine(8)}}
	p := [][]api.Ival{{nine(9), nine(10), nine(11)}, {nine(12), nine(13), nine(14)}}
	f := api.Tape{Lines: row(line(api.OTime, 0, 0), line(api.OState, 0, 0), line(api.OState, 1, 0), line(api.OPar, 0, 0), line(api.OPar, 1, 0), number(nine(15)))}
	f.Outs = []int{5, 4, 3, 2, 1, 0, 0}
	got, code := jet.Series(f, time, x, p, 2, 2)
	if code != api.OK || len(got) != len(f.Outs) {
		t.Fatal(got, code)
	}
	for i, k := range f.Outs {
		want := []api.Ival{rounded(3 * k), rounded(3*k + 1), rounded(3*k + 2)}
		if k == 5 {
			want = []api.Ival{rounded(15), {}, {}}
		}
		if !equals(got[i], want) {
			t.Errorf("out %d: %v; want %v", i, got[i], want)
		}
	}
}

// TestSolveByHand: where a system begins, what its time and parameters are, and how its orders are divided.
func TestSolveByHand(t *testing.T) {
	state, at, par := line(api.OState, 0, 0), line(api.OTime, 0, 0), line(api.OPar, 0, 0)
	for i, c := range []struct {
		lines []api.Line
		t     api.Ival
		x, p  []api.Ival
		bits  int
		want  []api.Ival
	}{
		{row(number(only(9, 0))), only(0, 0), onlys(11), nil, 2, []api.Ival{span(8, 12, 0), span(8, 12, 0), {}, {}}},
		{row(at), only(9, 0), onlys(0), nil, 2, []api.Ival{{}, span(8, 12, 0), only(1, -1), {}, {}}},
		{row(par), only(1, 0), onlys(0), []api.Ival{span(9, 11, 0)}, 2, []api.Ival{{}, span(8, 12, 0), {}, {}}},
		// Of t^4 order 5 is 1/5: 5 itself is not rounded to two bits.
		{row(at, line(api.OSqr, 0, 0), line(api.OSqr, 1, 0)), only(0, 0), onlys(1), nil, 2, []api.Ival{only(1, 0), {}, {}, {}, {}, span(3, 4, -4), {}}},
		{row(state, line(api.OSqr, 0, 0)), only(0, 0), onlys(2), nil, 30, onlys(2, 4, 8, 16, 32, 64)},
		{row(state, par, line(api.OMul, 0, 1)), only(0, 0), onlys(1), onlys(6), 30, onlys(1, 6, 18, 36, 54)},
		// 1 / x from 1: the root of 1 + 2 t.
		{row(number(only(1, 0)), state, line(api.ODiv, 0, 1)), only(0, 0), onlys(1), nil, 30, []api.Ival{only(1, 0), only(1, 0), only(-1, -1), only(1, -1), only(-5, -3), only(7, -3)}},
		// The root of x from 1: the square of 1 + t/2.
		{row(state, line(api.OSqrt, 0, 0)), only(0, 0), onlys(1), nil, 30, []api.Ival{only(1, 0), only(1, 0), only(1, -2), {}, {}, {}}},
		// e^x from 0: all 1 / n, here to three bits, of which 1/3, 1/5 and 1/6 have none.
		{row(state, line(api.OExp, 0, 0)), only(0, 0), onlys(0), nil, 3, []api.Ival{{}, only(1, 0), only(1, -1), span(5, 6, -4), span(3, 5, -4)}},
	} {
		got, code := jet.Solve(api.Tape{Lines: c.lines, Outs: []int{len(c.lines) - 1}}, c.t, c.x, c.p, len(c.want)-1, c.bits)
		if code != api.OK || len(got) != 1 || !equals(got[0], c.want) {
			t.Errorf("%d: %v, %d; want %v", i, got, code, c.want)
		}
		for k := range c.want {
			got, code := jet.Solve(api.Tape{Lines: c.lines, Outs: []int{len(c.lines) - 1}}, c.t, c.x, c.p, k, c.bits)
			if code != api.OK || len(got) != 1 || !equals(got[0], c.want[:k+1]) {
				t.Errorf("%d up to %d: %v, %d; want %v", i, k, got, code, c.want[:k+1])
			}
		}
	}
}

// TestSolveTurn: the outs are the derivatives of the states in turn, whatever lines they are, and one line more than once.
func TestSolveTurn(t *testing.T) {
	f := api.Tape{Lines: row(line(api.OState, 1, 0), line(api.OState, 0, 0), line(api.ONeg, 1, 0), line(api.OTime, 0, 0)), Outs: []int{0, 2, 3, 3}}
	got, code := jet.Solve(f, only(5, 0), onlys(1, 0, 7, 3), nil, 3, 3)
	want := [][]api.Ival{
		{only(1, 0), {}, only(-1, -1), {}},
		{{}, only(-1, 0), {}, span(5, 6, -5)},
		{only(7, 0), only(5, 0), only(1, -1), {}},
		{only(3, 0), only(5, 0), only(1, -1), {}},
	}
	if code != api.OK || !slices.EqualFunc(got, want, equals) {
		t.Errorf("%v, %d; want %v", got, code, want)
	}
}
