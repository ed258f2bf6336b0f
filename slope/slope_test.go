package slope_test

import (
	"math/big"
	"math/rand/v2"
	"runtime"
	"slices"
	"testing"

	"sluiceway/api"
	"sluiceway/arith"
	"sluiceway/ival"
	"sluiceway/slope"
	"sluiceway/tape"
)

const (
	maxExp   = api.MaxExp
	maxLines = api.MaxLines
	// most is how many bits may be asked for.
	most = 300
)

// precs are numbers of bits that may be.
var precs = []int{1, 2, 3, 20, 53, 64, 65, 299, most}

// is is the Dyad m times 2^e.
func is(m *big.Int, e int) api.Dyad {
	if m.Sign() == 0 {
		return api.Dyad{}
	}
	odd := new(big.Int).Abs(m)
	low := odd.TrailingZeroBits()
	d := api.Dyad{Neg: m.Sign() < 0, E: e + int(low)}
	for _, w := range odd.Rsh(odd, low).Bits() {
		d.M = append(d.M, uint64(w))
	}
	return d
}

// of is n times 2^e.
func of(n int64, e int) api.Dyad {
	return is(big.NewInt(n), e)
}

// from is from a to b.
func from(a, b api.Dyad) api.Ival {
	return api.Ival{Lo: a, Hi: b}
}

// span is from a to b, both times 2^e.
func span(a, b int64, e int) api.Ival {
	return from(of(a, e), of(b, e))
}

// only is n times 2^e alone.
func only(n int64, e int) api.Ival {
	return span(n, n, e)
}

// onlys are these whole numbers, each alone.
func onlys(ns ...int64) []api.Ival {
	var all []api.Ival
	for _, n := range ns {
		all = append(all, only(n, 0))
	}
	return all
}

// alike tells whether two Dyads have the same parts, without asking the program.
func alike(a, b api.Dyad) bool {
	return a.Neg == b.Neg && a.E == b.E && slices.Equal(a.M, b.M)
}

// equal tells whether two intervals have the same parts.
func equal(a, b api.Ival) bool {
	return alike(a.Lo, b.Lo) && alike(a.Hi, b.Hi)
}

// equals tells whether two rows have the same parts.
func equals(a, b []api.Ival) bool {
	return slices.EqualFunc(a, b, equal)
}

// row are lines, one behind the other.
func row(lines ...api.Line) []api.Line {
	return lines
}

// line is a line with an A and a B.
func line(op, a, b int) api.Line {
	return api.Line{Op: op, A: a, B: b}
}

// number is a line of a constant.
func number(k api.Ival) api.Line {
	return api.Line{Op: api.OConst, K: k}
}

// all are the numbers from 0 to less than n.
func all(n int) []int {
	var ks []int
	for k := range n {
		ks = append(ks, k)
	}
	return ks
}

// maker makes the same numbers at each run.
func maker(seed uint64) *rand.Rand {
	return rand.New(rand.NewPCG(seed, 0))
}

// made is a Dyad of up to three limbs, of a size that the operations have a value for.
func made(r *rand.Rand) api.Dyad {
	m := new(big.Int)
	for range 1 + r.IntN(3) {
		m.Lsh(m, 64).Or(m, new(big.Int).SetUint64(r.Uint64()>>r.IntN(64)))
	}
	if r.IntN(2) == 0 {
		m.Neg(m)
	}
	return is(m, r.IntN(8)-m.BitLen())
}

// far is a Dyad of few bits whose E is at the edges of what sums and products hold.
func far(r *rand.Rand) api.Dyad {
	edges := []int{0, 0, 0, 0, 0, 0, 2100, -2100, 4090, -4090, maxExp / 2, -maxExp / 2, maxExp, -maxExp}
	odd := []int64{0, 1, -1, 3, -3, 5}
	return of(odd[r.IntN(len(odd))], min(max(edges[r.IntN(len(edges))]-1+r.IntN(3), -maxExp), maxExp))
}

// between is an interval of two Dyads that are made so, or of one.
func between(r *rand.Rand, dyad func(*rand.Rand) api.Dyad) api.Ival {
	a, b := dyad(r), dyad(r)
	if r.IntN(3) == 0 {
		b = a
	}
	if c, code := ival.Make(a, b); code == api.OK {
		return c
	}
	return from(b, a)
}

// list is n intervals of Dyads that are made so.
func list(r *rand.Rand, n int, dyad func(*rand.Rand) api.Dyad) []api.Ival {
	var s []api.Ival
	for range n {
		s = append(s, between(r, dyad))
	}
	return s
}

// env has x states, u inputs and p parameters of Dyads that are made so.
func env(r *rand.Rand, x, u, p int, dyad func(*rand.Rand) api.Dyad) api.Env {
	return api.Env{T: between(r, dyad), X: list(r, x, dyad), U: list(r, u, dyad), P: list(r, p, dyad)}
}

// The operations by what they lean on: nothing, two lines above, one.
var (
	leaves = []int{api.OConst, api.OTime, api.OState, api.OIn, api.OPar}
	pairs  = []int{api.OAdd, api.OSub, api.OMul, api.ODiv}
	ones   = []int{api.ONeg, api.OSqr, api.OSqrt, api.OExp}
)

// ops are all operations, those of states more than once.
func ops() []int {
	return slices.Concat(leaves, pairs, ones, []int{api.OState, api.OState, api.OMul})
}

// grow makes a tape of n lines of these operations, with x states, u inputs and p parameters, and so many outs.
func grow(r *rand.Rand, n, x, u, p, outs int, ops []int, k func() api.Ival) api.Tape {
	var t api.Tape
	above := func() int {
		if r.IntN(2) == 0 {
			// One of the last lines, so that tapes are deep.
			return max(0, len(t.Lines)-1-r.IntN(3))
		}
		return r.IntN(len(t.Lines))
	}
	named := map[int]int{api.OState: x, api.OIn: u, api.OPar: p}
	for len(t.Lines) < n {
		op := ops[r.IntN(len(ops))]
		switch {
		case op == api.OConst:
			t.Lines = append(t.Lines, number(k()))
		case op == api.OTime:
			t.Lines = append(t.Lines, line(op, 0, 0))
		case named[op] > 0:
			t.Lines = append(t.Lines, line(op, r.IntN(named[op]), 0))
		case slices.Contains(pairs, op) && len(t.Lines) > 0:
			t.Lines = append(t.Lines, line(op, above(), above()))
		case slices.Contains(ones, op) && len(t.Lines) > 0:
			t.Lines = append(t.Lines, line(op, above(), 0))
		}
	}
	for n > 0 && len(t.Outs) < outs {
		t.Outs = append(t.Outs, r.IntN(n))
	}
	return t
}

// reference reckons at so many bits, up to the first error.
type reference struct{ bits, code int }

// two is what op makes of a and b.
func (s *reference) two(op func(a, b api.Ival, p int) (api.Ival, int), a, b api.Ival) api.Ival {
	var v api.Ival
	if s.code == api.OK {
		v, s.code = op(a, b, s.bits)
	}
	return v
}

// derivative is that of l by a state, by the words of the chapter: a, b and c are the values of its lines and its own, da and db the derivatives of its lines.
func (s *reference) derivative(l api.Line, state int, a, b, c, da, db api.Ival) api.Ival {
	twice := only(2, 0)
	switch l.Op {
	case api.OState:
		if l.A == state {
			return only(1, 0)
		}
	case api.OAdd:
		return s.two(arith.Add, da, db)
	case api.OSub:
		return s.two(arith.Sub, da, db)
	case api.ONeg:
		return s.two(func(a, _ api.Ival, p int) (api.Ival, int) { return arith.Neg(a, p) }, da, da)
	case api.OMul:
		left := s.two(arith.Mul, da, b)
		right := s.two(arith.Mul, a, db)
		return s.two(arith.Add, left, right)
	case api.ODiv:
		less := s.two(arith.Mul, c, db)
		rest := s.two(arith.Sub, da, less)
		return s.two(arith.Div, rest, b)
	case api.OSqr:
		return s.two(arith.Mul, s.two(arith.Mul, twice, a), da)
	case api.OSqrt:
		return s.two(arith.Div, da, s.two(arith.Mul, twice, c))
	case api.OExp:
		return s.two(arith.Mul, c, da)
	}
	return api.Ival{}
}

// expected is what Grad must answer: each state by itself, whether a line asks for it or not.
func expected(f api.Tape, e api.Env, p int) ([]api.Ival, [][]api.Ival, int) {
	vals, code := tape.Lines(f, e, p)
	s := &reference{p, code}
	var slopes, outs [][]api.Ival
	for i, l := range f.Lines[:len(vals)] {
		var a, b api.Ival
		var da, db []api.Ival
		if !slices.Contains(leaves, l.Op) {
			a, b, da, db = vals[l.A], vals[l.B], slopes[l.A], slopes[l.B]
		} else {
			da, db = make([]api.Ival, len(e.X)), make([]api.Ival, len(e.X))
		}
		var d []api.Ival
		for state := range e.X {
			d = append(d, s.derivative(l, state, a, b, vals[i], da[state], db[state]))
		}
		slopes = append(slopes, d)
	}
	if s.code != api.OK {
		return nil, nil, s.code
	}
	var told []api.Ival
	for _, k := range f.Outs {
		told, outs = append(told, vals[k]), append(outs, slopes[k])
	}
	return told, outs, api.OK
}

// hold holds Grad against what it must answer, and tells the code.
func hold(t *testing.T, f api.Tape, e api.Env, p int) int {
	t.Helper()
	vals, slopes, code := expected(f, e, p)
	v, d, c := slope.Grad(f, e, p)
	if c != code || !equals(v, vals) || !slices.EqualFunc(d, slopes, equals) {
		t.Fatalf("Grad of %v, %v to %d bits: %v, %v, %d; want %v, %v, %d", f, e, p, v, d, c, vals, slopes, code)
	}
	return c
}

// precision is a number of bits: any, or one at the edges.
func precision(r *rand.Rand) int {
	if r.IntN(2) == 0 {
		return precs[r.IntN(len(precs))]
	}
	return 1 + r.IntN(most)
}

// codesOf counts codes, and asks at the end for so many of each.
type codesOf map[int]int

func (c codesOf) ask(t *testing.T, least int, codes ...int) {
	t.Helper()
	for _, code := range codes {
		if c[code] < least {
			t.Errorf("code %d only %d times", code, c[code])
		}
	}
}

// TestGrad holds tapes of all kinds against the chapter's words.
func TestGrad(t *testing.T) {
	r := maker(1)
	codes := codesOf{}
	for i := range 6000 {
		n, x := r.IntN(9), r.IntN(5)
		if i%100 == 0 {
			n = r.IntN(maxLines + 1)
		}
		f := grow(r, n, x, r.IntN(3), r.IntN(3), r.IntN(6), ops(), func() api.Ival { return between(r, made) })
		codes[hold(t, f, env(r, x, 2, 2, made), precision(r))]++
	}
	codes.ask(t, 500, api.OK, api.ErrDomain)
	// Long ones, that have a value.
	for range 20 {
		f := grow(r, maxLines, 6, 2, 2, maxLines, []int{api.OState, api.OTime, api.OIn, api.OPar, api.OAdd, api.OSub, api.ONeg}, nil)
		if hold(t, f, env(r, 6, 2, 2, made), precision(r)) != api.OK {
			t.Error("a long tape has no value")
		}
	}
}

// TestEach holds each operation by itself against them, on wide intervals and on narrow ones, with any derivatives.
func TestEach(t *testing.T) {
	r := maker(2)
	codes := codesOf{}
	for i := range 8000 {
		op := slices.Concat(pairs, ones)[i%8]
		q := posed{op, precision(r), between(r, made), between(r, made), between(r, made), between(r, made)}
		if r.IntN(2) == 0 {
			// Above 0, so that it has a root and divides.
			q.a = from(of(1+r.Int64N(9), -r.IntN(3)), of(10+r.Int64N(9), 0))
			q.b = q.a
		}
		f, e := q.tape()
		codes[hold(t, f, e, q.bits)]++
	}
	codes.ask(t, 500, api.OK, api.ErrDomain)
}

// TestFar holds tapes against them where derivatives are too far apart for a sum, or too great or small for a product, though the values aren't.
func TestFar(t *testing.T) {
	r := maker(3)
	codes := codesOf{}
	for range 20000 {
		x := 1 + r.IntN(3)
		f := grow(r, 3+r.IntN(8), x, 0, 2, 2, ops(), func() api.Ival { return between(r, far) })
		e := env(r, x, 0, 2, far)
		for k := range e.X {
			if r.IntN(2) == 0 {
				// What is nought may be multiplied by all.
				e.X[k] = api.Ival{}
			}
		}
		p := precision(r)
		if _, code := tape.Lines(f, e, p); code == api.OK {
			codes[hold(t, f, e, p)]++
		}
	}
	for i := range 8000 {
		small := []api.Ival{{}, only(1, 0), only(2, 0), span(-1, 2, 0), only(3, -1)}
		q := posed{slices.Concat(pairs, ones)[i%8], precision(r), small[r.IntN(5)], between(r, far), small[r.IntN(5)], between(r, far)}
		f, e := q.tape()
		if _, code := tape.Lines(f, e, q.bits); code == api.OK {
			codes[hold(t, f, e, q.bits)]++
		}
	}
	codes.ask(t, 100, api.OK, api.ErrDomain, api.ErrLimb, api.ErrExp)
}

// TestStates holds tapes with far more states than lines against them: each state has its own derivatives, whether a line asks for it or not.
func TestStates(t *testing.T) {
	r := maker(4)
	for i := range 60 {
		x := 1 + r.IntN(400)
		f := grow(r, 1+r.IntN(9), x, 1, 1, 3, []int{api.OState, api.OState, api.OIn, api.OPar, api.OAdd, api.OSub, api.OMul, api.OSqr}, nil)
		for k := range f.Lines {
			if f.Lines[k].Op == api.OState && i%2 == 0 {
				// The first ones, or the last.
				f.Lines[k].A = []int{0, min(1, x-1), x - 1, max(0, x-2)}[r.IntN(4)]
			}
		}
		if hold(t, f, env(r, x, 1, 1, made), precision(r)) != api.OK {
			t.Error("a tape of many states has no value")
		}
	}
}

// TestManyStates: of far more states than lines no more is reckoned than by those that lines ask for, and by one that none asks for.
func TestManyStates(t *testing.T) {
	const many = 30000
	f := api.Tape{Lines: row(line(api.OState, many-1, 0), line(api.OState, many/2, 0)), Outs: []int{maxLines - 1}}
	for len(f.Lines) < maxLines {
		f.Lines = append(f.Lines, line(api.OAdd, len(f.Lines)-1, len(f.Lines)-2))
	}
	var before, behind runtime.MemStats
	runtime.ReadMemStats(&before)
	_, d, code := slope.Grad(f, api.Env{X: make([]api.Ival, many)}, 300)
	runtime.ReadMemStats(&behind)
	if code != api.OK || len(d) != 1 || len(d[0]) != many {
		t.Fatal(len(d), code)
	}
	for k, a := range d[0] {
		if nought := equal(a, api.Ival{}); nought == (k == many-1 || k == many/2) {
			t.Fatalf("by the state %d: %v", k, a)
		}
	}
	// The derivatives of all lines by all states would ask for some 20000 a state.
	if bytes := behind.TotalAlloc - before.TotalAlloc; bytes > 1000*many {
		t.Errorf("%d bytes are asked for", bytes)
	}
}

// TestExamples are those of the document.
func TestExamples(t *testing.T) {
	x := line(api.OState, 0, 0)
	for _, lines := range [][]api.Line{row(x, line(api.OMul, 0, 0)), row(x, x, line(api.OMul, 0, 1)), row(x, line(api.OSqr, 0, 0))} {
		f := api.Tape{Lines: lines, Outs: []int{len(lines) - 1}}
		v, d, code := slope.Grad(f, api.Env{X: onlys(3)}, 4)
		if code != api.OK || !equals(v, onlys(9)) || len(d) != 1 || !equals(d[0], onlys(6)) {
			t.Errorf("x x at 3: %v, %v, %d", v, d, code)
		}
	}
}

// posed is an operation at so many bits, of lines with the values a, b and the derivatives da, db.
type posed struct {
	op, bits     int
	a, da, b, db api.Ival
}

// tape is one for that, whose out is the operation: a and b are each a parameter, and as many times a state, which is 0, as their derivatives say.
func (q posed) tape() (api.Tape, api.Env) {
	f := api.Tape{Lines: row(
		line(api.OState, 0, 0),
		line(api.OPar, 0, 0), line(api.OPar, 1, 0), line(api.OMul, 2, 0), line(api.OAdd, 1, 3),
		line(api.OPar, 2, 0), line(api.OPar, 3, 0), line(api.OMul, 6, 0), line(api.OAdd, 5, 7)), Outs: []int{9}}
	last := line(q.op, 4, 8)
	if slices.Contains(ones, q.op) {
		last.B = 0
	}
	f.Lines = append(f.Lines, last)
	return f, api.Env{X: onlys(0), P: []api.Ival{q.a, q.da, q.b, q.db}}
}

// TestByHand is each operation, by numbers that are known; of few bits, so that one order of reckoning has another answer than the next.
func TestByHand(t *testing.T) {
	n := func(n int64) api.Ival { return only(n, 0) }
	for i, c := range []struct {
		posed
		v, d api.Ival
	}{
		{posed{api.OAdd, 2, n(1), n(3), n(2), n(2)}, n(3), span(4, 6, 0)},
		{posed{api.OAdd, 9, span(1, 2, 0), span(-1, 3, 0), span(1, 4, 0), span(5, 7, 0)}, span(2, 6, 0), span(4, 10, 0)},
		{posed{api.OSub, 2, n(1), n(3), n(2), n(-2)}, n(-1), span(4, 6, 0)},
		{posed{api.OSub, 9, span(1, 2, 0), span(-1, 3, 0), span(1, 4, 0), span(5, 7, 0)}, span(-3, 1, 0), span(-8, -2, 0)},
		{posed{api.ONeg, 9, n(1), span(-1, 2, 0), n(7), n(7)}, n(-1), span(-2, 1, 0)},
		// 3 times 5 and 2 times 7.
		{posed{api.OMul, 9, n(2), n(3), n(5), n(7)}, n(10), n(29)},
		// Each product is rounded by itself: 9 + 1 is 10, but from 8 to 12 and 1 is from 8 to 16; and from the other side.
		{posed{api.OMul, 2, n(1), n(3), n(3), n(1)}, n(3), span(8, 16, 0)},
		{posed{api.OMul, 2, n(3), n(1), n(1), n(3)}, n(3), span(8, 16, 0)},
		{posed{api.OMul, 9, span(-1, 2, 0), n(1), n(3), span(0, 1, 0)}, span(-3, 6, 0), span(2, 5, 0)},
		// 1 less 3 times 4, by 2: 11 is rounded ahead of its half.
		{posed{api.ODiv, 9, n(6), n(1), n(2), n(4)}, n(3), only(-11, -1)},
		{posed{api.ODiv, 2, n(6), n(1), n(2), n(4)}, n(3), span(-6, -4, 0)},
		// 3 times 3 is from 8 to 12, 1 less that from -12 to -6.
		{posed{api.ODiv, 2, n(6), n(1), n(2), n(3)}, n(3), span(-6, -3, 0)},
		// 1/3 is from 1/4 to 3/8; a third of that from 1/16 to 1/8, where 1/9 would be from 3/32.
		{posed{api.ODiv, 2, n(1), n(0), n(3), n(1)}, span(2, 3, -3), span(-2, -1, -4)},
		{posed{api.ODiv, 9, n(4), n(0), span(-4, -2, 0), n(1)}, span(-2, -1, 0), span(-4, -1, -2)},
		{posed{api.OSqr, 9, n(3), n(1), n(7), n(7)}, n(9), n(6)},
		{posed{api.OSqr, 9, span(-1, 2, 0), n(1), n(7), n(7)}, span(0, 4, 0), span(-2, 4, 0)},
		{posed{api.OSqr, 9, span(-1, 2, 0), span(-1, 1, 0), n(7), n(7)}, span(0, 4, 0), span(-4, 4, 0)},
		// 18 to two bits.
		{posed{api.OSqr, 2, n(3), n(3), n(7), n(7)}, span(8, 12, 0), span(16, 24, 0)},
		{posed{api.OSqrt, 9, n(4), n(3), n(7), n(7)}, n(2), only(3, -2)},
		{posed{api.OSqrt, 9, span(1, 4, 0), span(-1, 1, 0), n(7), n(7)}, span(1, 2, 0), span(-1, 1, -1)},
		// A sixth and a fifth, to three bits.
		{posed{api.OSqrt, 3, n(8), n(1), n(7), n(7)}, span(5, 6, -1), from(of(5, -5), of(7, -5))},
		{posed{api.OExp, 9, n(0), n(5), n(7), n(7)}, n(1), n(5)},
		// e to two bits, and three times that.
		{posed{api.OExp, 2, n(1), n(3), n(7), n(7)}, span(2, 3, 0), span(6, 12, 0)},
		{posed{api.OExp, 2, n(1), span(-1, 1, 0), n(7), n(7)}, span(2, 3, 0), span(-3, 3, 0)},
	} {
		f, e := c.tape()
		v, d, code := slope.Grad(f, e, c.bits)
		if code != api.OK || len(v) != 1 || len(d) != 1 || len(d[0]) != 1 || !equal(v[0], c.v) || !equal(d[0][0], c.d) {
			t.Errorf("%d: %v, %v, %d; want %v, %v", i, v, d, code, c.v, c.d)
		}
	}
}

// TestLeaves is each operation that leans on no line: a state has a derivative by itself, nothing else has one.
func TestLeaves(t *testing.T) {
	wide := span(9, 11, 0)
	f := api.Tape{Lines: row(number(wide), line(api.OTime, 0, 0), line(api.OState, 2, 0), line(api.OIn, 1, 0), line(api.OPar, 0, 0), line(api.OState, 0, 0))}
	f.Outs = []int{5, 4, 3, 2, 1, 0, 2}
	e := api.Env{T: wide, X: []api.Ival{wide, wide, wide}, U: []api.Ival{wide, wide}, P: []api.Ival{wide}}
	for _, p := range precs {
		v, d, code := slope.Grad(f, e, p)
		if code != api.OK || len(v) != len(f.Outs) || len(d) != len(f.Outs) {
			t.Fatal(v, d, code)
		}
		for i, k := range f.Outs {
			want := onlys(0, 0, 0)
			if l := f.Lines[k]; l.Op == api.OState {
				want[l.A] = only(1, 0)
			}
			round, _ := ival.Round(wide, p)
			if !equal(v[i], round) || !equals(d[i], want) {
				t.Errorf("out %d to %d bits: %v, %v; want %v, %v", i, p, v[i], d[i], round, want)
			}
		}
	}
}

// TestNone: where there are no outs, no states or no lines, there are no derivatives.
func TestNone(t *testing.T) {
	for _, c := range []struct {
		f    api.Tape
		e    api.Env
		want []api.Ival
	}{
		{api.Tape{}, api.Env{}, nil},
		{api.Tape{Lines: row(), Outs: []int{}}, api.Env{X: []api.Ival{}, U: []api.Ival{}, P: []api.Ival{}}, nil},
		{api.Tape{}, api.Env{X: onlys(1, 2)}, nil},
		{api.Tape{Lines: row(line(api.OState, 0, 0))}, api.Env{X: onlys(1, 2)}, nil},
		{api.Tape{Lines: row(line(api.OPar, 0, 0)), Outs: []int{0, 0}}, api.Env{P: onlys(7)}, onlys(7, 7)},
		// Of no states even the root of nought has all its derivatives.
		{api.Tape{Lines: row(line(api.OTime, 0, 0), line(api.OSqrt, 0, 0)), Outs: []int{1}}, api.Env{}, onlys(0)},
	} {
		v, d, code := slope.Grad(c.f, c.e, 20)
		if code != api.OK || !equals(v, c.want) || len(d) != len(c.want) || len(slices.Concat(d...)) != 0 {
			t.Errorf("%v, %v: %v, %v, %d", c.f, c.e, v, d, code)
		}
	}
}
