package arith_test

import (
	"cmp"
	"math"
	"math/big"
	"math/rand/v2"
	"slices"
	"testing"

	"sluiceway/api"
	"sluiceway/arith"
	"sluiceway/dyad"
	"sluiceway/ival"
	"sluiceway/round"
)

const (
	maxExp  = api.MaxExp
	maxBits = 64 * api.MaxLimbs
)

var one = big.NewInt(1)

// badDyads are Dyads that may not be, each for one reason.
var badDyads = []api.Dyad{
	{Neg: true},
	{E: 1},
	{M: []uint64{0}},
	{M: []uint64{6}},
	{M: []uint64{0, 1}, Neg: true},
	{M: []uint64{1, 0}},
	{M: slices.Repeat([]uint64{1}, api.MaxLimbs+1)},
	{M: []uint64{1}, E: maxExp + 1},
	{M: []uint64{1}, E: -maxExp - 1, Neg: true},
	{M: []uint64{3}, E: math.MinInt},
	{M: []uint64{3}, E: math.MaxInt},
}

// badPrecs are numbers of bits that may not be.
var badPrecs = []int{0, -1, api.MaxPrec + 1, 4096, math.MaxInt, math.MinInt}

// bad are intervals that may not be: for an end, or for their order.
func bad() []api.Ival {
	var all []api.Ival
	for _, d := range badDyads {
		all = append(all, api.Ival{Lo: d, Hi: d}, api.Ival{Lo: of(-9, 0), Hi: d}, api.Ival{Lo: d, Hi: of(9, 0)})
	}
	return append(all,
		api.Ival{Lo: of(3, 0), Hi: of(1, 0)},
		api.Ival{Lo: of(1, -maxExp)},
		api.Ival{Hi: of(-1, -maxExp)},
		api.Ival{Lo: of(1, maxExp), Hi: of(1, -maxExp)},
		api.Ival{Lo: of(-1, 0), Hi: of(-1, 1)})
}

// number is m by d times 2^e, without limits; d is above 0.
type number struct {
	m, d *big.Int
	e    int
}

func value(d api.Dyad) number {
	z := new(big.Int)
	for _, x := range slices.Backward(d.M) {
		z.Lsh(z, 64).Or(z, new(big.Int).SetUint64(x))
	}
	if d.Neg {
		z.Neg(z)
	}
	return number{z, one, d.E}
}

// level are the sizes of x and y over one divisor and one E, which are told too.
func level(x, y number) (*big.Int, *big.Int, *big.Int, int) {
	e := min(x.e, y.e)
	a, b := new(big.Int).Mul(x.m, y.d), new(big.Int).Mul(y.m, x.d)
	return a.Lsh(a, uint(x.e-e)), b.Lsh(b, uint(y.e-e)), new(big.Int).Mul(x.d, y.d), e
}

// compare is -1, 0 or 1, as x is less than y, the same or greater.
func compare(x, y number) int {
	if s := x.m.Sign(); s != y.m.Sign() {
		return cmp.Compare(s, y.m.Sign())
	} else if n := size(x) - size(y); n < -2 || n > 2 {
		// Quicker than levelling, of which these tests ask much.
		return s * cmp.Compare(n, 0)
	}
	a, b, _, _ := level(x, y)
	return a.Cmp(b)
}

// size is at most 1 beside how high x's highest bit stands.
func size(x number) int {
	return x.m.BitLen() - x.d.BitLen() + x.e
}

func plus(x, y number) number {
	a, b, d, e := level(x, y)
	return number{a.Add(a, b), d, e}
}

func minus(x number) number {
	return number{new(big.Int).Neg(x.m), x.d, x.e}
}

func times(x, y number) number {
	return number{new(big.Int).Mul(x.m, y.m), new(big.Int).Mul(x.d, y.d), x.e + y.e}
}

// over is x by y, which is not 0.
func over(x, y number) number {
	if y.m.Sign() < 0 {
		x, y = minus(x), minus(y)
	}
	return number{new(big.Int).Mul(x.m, y.d), new(big.Int).Mul(x.d, y.m), x.e - y.e}
}

// cut is x rounded to p bits, by asking floors alone.
func cut(x number, p int, up bool) number {
	if up {
		return minus(cut(minus(x), p, false))
	}
	if x.m.Sign() == 0 {
		return number{x.m, one, 0}
	}
	j := x.m.BitLen() - x.d.BitLen() - p
	with := func(j int) (*big.Int, *big.Int) {
		return new(big.Int).Lsh(x.m, uint(max(0, -j))), new(big.Int).Lsh(x.d, uint(max(0, j)))
	}
	// 2^j is what the last of p bits counts.
	if m, d := with(j + p); m.CmpAbs(d) >= 0 {
		j++
	}
	m, d := with(j)
	return number{m.Div(m, d), one, x.e + j} // Div rounds down, for d is above 0.
}

// cutRoot is the square root of x, which has no divisor, rounded to p bits.
func cutRoot(x number, p int, up bool) number {
	n := 2*p + 10 + x.e&1
	m := new(big.Int).Lsh(x.m, uint(n))
	r := new(big.Int).Sqrt(m)
	if up && new(big.Int).Mul(r, r).Cmp(m) != 0 {
		r.Add(r, one)
	}
	return cut(number{r, one, (x.e - n) / 2}, p, up)
}

// expected is what a call must answer, if its value is x, which has no divisor.
func expected(x number) (api.Dyad, int) {
	if x.m.Sign() == 0 {
		return api.Dyad{}, api.OK
	}
	odd := new(big.Int).Abs(x.m)
	low := odd.TrailingZeroBits()
	d := api.Dyad{Neg: x.m.Sign() < 0, E: x.e + int(low)}
	odd.Rsh(odd, low)
	switch {
	case odd.BitLen() > maxBits:
		return api.Dyad{}, api.ErrLimb
	case d.E < -maxExp || d.E > maxExp:
		return api.Dyad{}, api.ErrExp
	}
	for _, w := range odd.Bits() {
		d.M = append(d.M, uint64(w))
	}
	return d, api.OK
}

// is is the Dyad m times 2^e.
func is(m *big.Int, e int) api.Dyad {
	d, code := expected(number{m, one, e})
	if code != api.OK {
		panic("a test asks for what there is not")
	}
	return d
}

// of is n times 2^e.
func of(n int64, e int) api.Dyad {
	return is(big.NewInt(n), e)
}

// span is from a to b, both times 2^e.
func span(a, b int64, e int) api.Ival {
	return api.Ival{Lo: of(a, e), Hi: of(b, e)}
}

// from is from a to b.
func from(a, b api.Dyad) api.Ival {
	return api.Ival{Lo: a, Hi: b}
}

// power is 2^n and more.
func power(n int, more int64) *big.Int {
	z := new(big.Int).Lsh(one, uint(n))
	return z.Add(z, big.NewInt(more))
}

// alike tells whether two Dyads have the same parts, without asking the program.
func alike(a, b api.Dyad) bool {
	return a.Neg == b.Neg && a.E == b.E && slices.Equal(a.M, b.M)
}

// equal tells whether two intervals have the same parts.
func equal(a, b api.Ival) bool {
	return alike(a.Lo, b.Lo) && alike(a.Hi, b.Hi)
}

// check holds an answer against what it must be.
func check(t *testing.T, call string, got api.Ival, code int, want api.Ival, c int) {
	t.Helper()
	if code != c || !equal(got, want) {
		t.Fatalf("%s: %v, %d; want %v, %d", call, got, code, want, c)
	}
}

// call is an operation, as one shape for all of them.
type call struct {
	name  string
	takes int
	ask   func(a, b api.Ival, p int) (api.Ival, int)
	want  func(a, b api.Ival, p int) (api.Ival, int)
	// domain tells whether the operation has a value on all numbers of a and b.
	domain func(a, b api.Ival) bool
}

// calls are all operations, and what each of them must answer where a, b and p may be.
func calls() []call {
	alone := func(op func(a api.Ival, p int) (api.Ival, int)) func(a, b api.Ival, p int) (api.Ival, int) {
		return func(a, _ api.Ival, p int) (api.Ival, int) { return op(a, p) }
	}
	always := func(a, b api.Ival) bool { return true }
	return []call{
		{"Add", 2, arith.Add, wantAdd, always},
		{"Sub", 2, arith.Sub, wantSub, always},
		{"Mul", 2, arith.Mul, wantMul, always},
		{"Div", 2, arith.Div, wantDiv, func(_, b api.Ival) bool { return !holdsNought(b) }},
		{"Neg", 1, alone(arith.Neg), wantNeg, always},
		{"Sqr", 1, alone(arith.Sqr), wantSqr, always},
		{"Sqrt", 1, alone(arith.Sqrt), wantSqrt, func(a, _ api.Ival) bool { return !a.Lo.Neg }},
	}
}

func holdsNought(a api.Ival) bool {
	return value(a.Lo).m.Sign() <= 0 && value(a.Hi).m.Sign() >= 0
}

// judge holds the first error of what is asked in turn.
type judge struct{ code int }

// asks is what x is as a Dyad.
func (j *judge) asks(x number) api.Dyad {
	d, code := expected(x)
	if j.code == api.OK {
		j.code = code
	}
	return d
}

// tells is the answer, or the first error.
func (j *judge) tells(lo, hi api.Dyad) (api.Ival, int) {
	if j.code != api.OK {
		return api.Ival{}, j.code
	}
	return api.Ival{Lo: lo, Hi: hi}, api.OK
}

// endByEnd is the answer, if it is done with the Lo ahead of the Hi.
func endByEnd(lo, hi number, p int) (api.Ival, int) {
	var ends [2]api.Dyad
	for i, x := range []number{lo, hi} {
		_, code := expected(x)
		if code == api.OK {
			ends[i], code = expected(cut(x, p, i == 1))
		}
		if code != api.OK {
			return api.Ival{}, code
		}
	}
	return from(ends[0], ends[1]), api.OK
}

// chosen is the answer, if its ends are chosen among these, of which those that are asked come first.
func chosen(asked int, p int, these ...number) (api.Ival, int) {
	var j judge
	for _, x := range these[:asked] {
		j.asks(x)
	}
	low := j.asks(cut(slices.MinFunc(these, compare), p, false))
	return j.tells(low, j.asks(cut(slices.MaxFunc(these, compare), p, true)))
}

func wantAdd(a, b api.Ival, p int) (api.Ival, int) {
	return endByEnd(plus(value(a.Lo), value(b.Lo)), plus(value(a.Hi), value(b.Hi)), p)
}

func wantSub(a, b api.Ival, p int) (api.Ival, int) {
	return endByEnd(plus(value(a.Lo), minus(value(b.Hi))), plus(value(a.Hi), minus(value(b.Lo))), p)
}

func wantNeg(a, _ api.Ival, p int) (api.Ival, int) {
	return endByEnd(minus(value(a.Hi)), minus(value(a.Lo)), p)
}

func wantMul(a, b api.Ival, p int) (api.Ival, int) {
	l, h, x, y := value(a.Lo), value(a.Hi), value(b.Lo), value(b.Hi)
	return chosen(4, p, times(l, x), times(l, y), times(h, x), times(h, y))
}

func wantSqr(a, _ api.Ival, p int) (api.Ival, int) {
	l, h := value(a.Lo), value(a.Hi)
	these := []number{times(l, l), times(h, h)}
	if holdsNought(a) {
		these = append(these, value(api.Dyad{}))
	}
	return chosen(2, p, these...)
}

func wantDiv(a, b api.Ival, p int) (api.Ival, int) {
	if holdsNought(b) {
		return api.Ival{}, api.ErrDomain
	}
	l, h, x, y := value(a.Lo), value(a.Hi), value(b.Lo), value(b.Hi)
	all := []number{over(l, x), over(l, y), over(h, x), over(h, y)}
	var j judge
	for _, up := range []bool{false, true} {
		for _, q := range all {
			j.asks(cut(q, p, up))
		}
	}
	return j.tells(j.asks(cut(slices.MinFunc(all, compare), p, false)), j.asks(cut(slices.MaxFunc(all, compare), p, true)))
}

func wantSqrt(a, _ api.Ival, p int) (api.Ival, int) {
	if a.Lo.Neg {
		return api.Ival{}, api.ErrDomain
	}
	var j judge
	return j.tells(j.asks(cutRoot(value(a.Lo), p, false)), j.asks(cutRoot(value(a.Hi), p, true)))
}

// try holds all operations on a and b against what they must answer.
func try(t *testing.T, a, b api.Ival, p int) {
	t.Helper()
	for _, c := range calls() {
		got, code := c.ask(a, b, p)
		if want, w := c.want(a, b, p); code != w || !equal(got, want) {
			t.Fatalf("%s of %v, %v to %d bits: %v, %d; want %v, %d", c.name, a, b, p, got, code, want, w)
		}
	}
}

// maker makes the same numbers at each run.
func maker(seed uint64) *rand.Rand {
	return rand.New(rand.NewPCG(seed, 0))
}

// made is a Dyad of up to n limbs, with long rows of equal bits.
func made(r *rand.Rand, n, e int) api.Dyad {
	m := make([]uint64, 1+r.IntN(n))
	for i := range m {
		switch r.IntN(4) {
		case 0:
			m[i] = math.MaxUint64
		case 1:
			m[i] = 1 << r.IntN(64)
		case 2:
			m[i] = r.Uint64()
		}
	}
	m[0] |= 1
	m[len(m)-1] |= 1 << r.IntN(64)
	return api.Dyad{Neg: r.IntN(2) == 0, M: m, E: r.IntN(2*e+1) - e}
}

// madeSpan is an interval of two that are made so, or of one.
func madeSpan(r *rand.Rand, n, e int) api.Ival {
	a, b := made(r, n, e), made(r, n, e)
	if r.IntN(8) == 0 {
		b = a
	}
	if compare(value(a), value(b)) > 0 {
		a, b = b, a
	}
	return from(a, b)
}

// above is a, if it is above 0; or its opposite.
func above(a api.Ival) api.Ival {
	if a.Lo.Neg && a.Hi.Neg {
		a.Lo, a.Hi = a.Hi, a.Lo
	}
	a.Lo.Neg, a.Hi.Neg = false, false
	if compare(value(a.Lo), value(a.Hi)) > 0 {
		a.Lo, a.Hi = a.Hi, a.Lo
	}
	return a
}

// spans are all intervals between these, which rise.
func spans(ds ...api.Dyad) []api.Ival {
	var all []api.Ival
	for i, a := range ds {
		for _, b := range ds[i:] {
			all = append(all, from(a, b))
		}
	}
	return all
}

// TestExamples are those of the document.
func TestExamples(t *testing.T) {
	got, code := arith.Sqr(span(-1, 2, 0), 53)
	check(t, "Sqr", got, code, span(0, 4, 0), api.OK)
}

// TestSmall: all operations on all intervals of small numbers, to few bits.
func TestSmall(t *testing.T) {
	var ds []api.Dyad
	for n := int64(-4); n <= 4; n++ {
		ds = append(ds, of(n, 0))
	}
	for _, a := range spans(ds...) {
		for _, b := range spans(ds...) {
			for p := 1; p <= 6; p++ {
				try(t, a, b, p)
			}
		}
	}
}

// TestAnswers: all operations on intervals of up to all limbs, to up to all bits.
func TestAnswers(t *testing.T) {
	r := maker(1)
	for range 4000 {
		a, b := madeSpan(r, 4, 300), madeSpan(r, 4, 300)
		try(t, a, b, 1+r.IntN(200))
		try(t, above(a), above(b), 1+r.IntN(200))
	}
	for range 1000 {
		a, b := madeSpan(r, api.MaxLimbs, 300), madeSpan(r, api.MaxLimbs, 300)
		try(t, a, b, 1+r.IntN(api.MaxPrec))
		try(t, above(a), above(b), 1+r.IntN(api.MaxPrec))
	}
	for range 1000 {
		a, b := madeSpan(r, api.MaxLimbs/2, 300), madeSpan(r, api.MaxLimbs/2, 300)
		try(t, a, b, 1+r.IntN(api.MaxPrec))
	}
}

// TestEdges: all operations at the edges of signs, limbs, bits and exponents.
func TestEdges(t *testing.T) {
	most, half := power(maxBits, -1), power(maxBits/2, -1)
	wide := spans(is(new(big.Int).Neg(most), 0), is(new(big.Int).Neg(half), 7), of(-1, 0), api.Dyad{}, of(1, -maxBits), of(3, 0), is(half, 0), is(most, 0), of(1, maxBits))
	far := spans(of(-3, maxExp), of(-1, 0), of(-1, -maxExp), api.Dyad{M: []uint64{}}, of(3, -maxExp), of(1, maxExp-1), of(1, maxExp))
	for _, these := range [][]api.Ival{wide, far} {
		for i, a := range these {
			for _, b := range these {
				try(t, a, b, []int{1, 2, 64, api.MaxPrec}[i%4])
			}
		}
	}
	for _, a := range slices.Concat(wide, far) {
		for _, p := range []int{1, 2, 3, 63, 64, 65, 1999, api.MaxPrec} {
			try(t, a, span(3, 3, 0), p)
		}
	}
}

// limbs is a number of n limbs.
func limbs(n int) *big.Int {
	return power(64*n, -1)
}

// TestSumOrder: of sums and differences the exact Lo's error is told first, then that of its Down, of the exact Hi, of its Up.
func TestSumOrder(t *testing.T) {
	for i, x := range []struct {
		a, b api.Ival
		p    int
		code int
	}{
		// The exact Lo has too many limbs, the exact Hi too great an exponent.
		{from(of(1, 0), of(1, maxExp)), from(of(1, -5000), of(1, maxExp)), 9, api.ErrLimb},
		// The other way round.
		{from(of(-1, maxExp), of(1, 0)), from(of(-1, maxExp), of(1, -5000)), 9, api.ErrExp},
		// The Lo's Down has too great an exponent, the exact Hi too many limbs.
		{from(of(3, maxExp), of(5, maxExp)), span(0, 1, 0), 1, api.ErrExp},
		{from(of(3, maxExp), of(5, maxExp)), span(0, 1, 0), 2, api.ErrLimb},
		// The exact Lo has too many limbs to be rounded at all; so has the Hi.
		{span(1, 1, 5000), span(0, 1, 0), 1, api.ErrLimb},
		{span(-1, 1, 5000), span(-1, 0, 0), 1, api.ErrLimb},
		{span(1, 1, maxExp), span(1, 1, -maxExp), 1, api.ErrLimb},
		// Only an Up, or only a Down, has too great an exponent.
		{from(of(-1, maxExp), of(3, maxExp)), span(0, 0, 0), 1, api.ErrExp},
		{from(of(-3, maxExp), of(1, maxExp)), span(0, 0, 0), 1, api.ErrExp},
		{from(of(-3, maxExp), of(3, maxExp)), span(0, 0, 0), 2, api.OK},
		// What goes away in the sum is no error.
		{span(1, 1, maxExp), span(-1, -1, maxExp), 1, api.OK},
	} {
		got, code := arith.Add(x.a, x.b, x.p)
		if code != x.code || code != api.OK && !equal(got, api.Ival{}) {
			t.Errorf("%d: Add: %v, %d; want %d", i, got, code, x.code)
		}
		b := from(dyad.Neg(x.b.Hi), dyad.Neg(x.b.Lo))
		got, code = arith.Sub(x.a, b, x.p)
		if code != x.code || code != api.OK && !equal(got, api.Ival{}) {
			t.Errorf("%d: Sub: %v, %d; want %d", i, got, code, x.code)
		}
	}
}

// TestMulOrder: the four exact products' errors are told in their order, also of those that are no end of the answer; then that of the Down, then that of the Up.
func TestMulOrder(t *testing.T) {
	m, twice := is(limbs(40), 0), is(limbs(40), 1)
	less := dyad.Neg(m)
	for i, x := range []struct {
		a, b api.Ival
		p    int
		code int
	}{
		// Of the four, only the one that is told has an error; it is no end.
		{from(m, of(1, 5000)), from(of(-1, 5000), m), 9, api.ErrLimb},               // Lo Hi
		{from(of(-1, 5000), m), from(m, of(1, 5000)), 9, api.ErrLimb},               // Hi Lo
		{from(less, of(1, 5000)), from(less, of(1, 5000)), 9, api.ErrLimb},          // Lo Lo
		{from(of(-1, 5000), m), from(of(-1, 5000), m), 9, api.ErrLimb},              // Hi Hi
		{from(of(1, -maxExp), of(1, 0)), from(of(-1, 0), of(1, -1)), 9, api.ErrExp}, // Lo Hi
		{from(of(-1, 0), of(1, -maxExp)), from(of(1, -1), of(1, 0)), 9, api.ErrExp}, // Hi Lo
		// One of the four has too great an exponent, a later one too many limbs, or the other way round.
		{from(twice, twice), from(of(-1, maxExp), m), 9, api.ErrExp},      // Lo Lo, Lo Hi
		{from(twice, twice), from(m, of(1, maxExp)), 9, api.ErrLimb},      // Lo Lo, Lo Hi
		{from(of(-1, maxExp), m), from(twice, twice), 9, api.ErrExp},      // Lo Lo, Hi Lo
		{from(m, of(1, maxExp)), from(twice, twice), 9, api.ErrLimb},      // Lo Lo, Hi Lo
		{from(of(-3, maxExp), m), from(of(-3, maxExp), m), 9, api.ErrExp}, // Lo Lo, Hi Hi
		{from(m, of(1, maxExp)), from(m, of(1, maxExp)), 9, api.ErrLimb},  // Lo Lo, Hi Hi
		{from(of(-1, maxExp), m), from(m, of(1, maxExp)), 9, api.ErrExp},  // Lo Hi, Hi Lo
		{from(m, of(1, maxExp)), from(of(-1, maxExp), m), 9, api.ErrLimb}, // Lo Hi, Hi Lo
		{from(of(1, 0), twice), from(of(-1, maxExp), m), 9, api.ErrExp},   // Hi Lo, Hi Hi
		{from(of(1, 0), twice), from(m, of(1, maxExp)), 9, api.ErrLimb},   // Hi Lo, Hi Hi
		// Of too many limbs and too great an exponent: too many limbs.
		{from(is(limbs(40), maxExp), is(limbs(40), maxExp)), from(m, m), 9, api.ErrLimb},
		// A Down that can't be is told behind a product that has too many limbs.
		{from(of(-3, maxExp), m), from(of(1, 0), m), 1, api.ErrLimb},
		{from(of(-3, maxExp), m), span(1, 1, 0), 1, api.ErrExp},
		{from(of(-1, maxExp), of(3, maxExp)), span(1, 1, 0), 1, api.ErrExp},
		{from(of(-1, maxExp), of(3, maxExp)), span(1, 1, 0), 2, api.OK},
		{span(1, 1, maxExp), span(1, 1, -maxExp), 1, api.OK},
	} {
		got, code := arith.Mul(x.a, x.b, x.p)
		if code != x.code || code != api.OK && !equal(got, api.Ival{}) {
			t.Errorf("%d: %v, %d; want %d", i, got, code, x.code)
		}
	}
}

// TestSqrOrder: the exact Lo Lo's error is told ahead of Hi Hi's, also where 0 is the least; then that of the Down, then that of the Up.
func TestSqrOrder(t *testing.T) {
	m := is(limbs(40), 0)
	for i, x := range []struct {
		a    api.Ival
		p    int
		code int
	}{
		{from(m, of(1, maxExp)), 9, api.ErrLimb},
		{from(of(-1, maxExp), m), 9, api.ErrExp},
		{from(dyad.Neg(m), of(1, maxExp)), 9, api.ErrLimb},
		{from(of(1, 0), m), 9, api.ErrLimb},
		{from(dyad.Neg(m), of(1, 0)), 9, api.ErrLimb},
		// Neither the Lo nor the Hi is chosen, where 0 is between, of the lesser one of the ends.
		{from(dyad.Neg(m), of(1, 5000)), 9, api.ErrLimb},
		{from(of(-1, 5000), m), 9, api.ErrLimb},
		{from(of(-1, -maxExp), of(1, 0)), 9, api.ErrExp},
		{from(of(-1, 0), of(1, -maxExp)), 9, api.ErrExp},
		// The Down has another exponent than the Up.
		{from(of(1, 0), of(3, maxExp/2)), 3, api.ErrExp},
		{from(of(1, 0), of(3, maxExp/2)), 4, api.OK},
		{from(of(-3, maxExp/2), of(1, 0)), 3, api.ErrExp},
		{from(of(5, maxExp/2), of(5, maxExp/2)), 4, api.ErrExp},
	} {
		got, code := arith.Sqr(x.a, x.p)
		if code != x.code || code != api.OK && !equal(got, api.Ival{}) {
			t.Errorf("%d: %v, %d; want %d", i, got, code, x.code)
		}
	}
}

// TestDivOrder: each of the eight quotients must be, also those that are no end of the answer; that b holds 0 is told ahead of them.
func TestDivOrder(t *testing.T) {
	for i, x := range []struct {
		a, b api.Ival
		p    int
		code int
	}{
		// 1/3 is 5 times 2^-4 or 11 times 2^-5 with 4 bits: only Lo Lo's Up has too low an exponent, or Hi Hi's Down.
		{from(of(1, 4-maxExp), of(1, 0)), span(3, 3, 0), 4, api.ErrExp},
		{from(of(-1, 0), of(-1, 4-maxExp)), span(3, 3, 0), 4, api.ErrExp},
		{from(of(1, 5-maxExp), of(1, 0)), span(3, 3, 0), 4, api.OK},
		{from(of(-1, 0), of(-1, 5-maxExp)), span(3, 3, 0), 4, api.OK},
		// Only a quotient that is no end of the answer.
		{from(of(-1, -maxExp), of(1, 0)), span(-2, -1, 0), 9, api.ErrExp}, // Lo Lo
		{from(of(-1, -maxExp), of(1, 0)), span(1, 2, 0), 9, api.ErrExp},   // Lo Hi
		{from(of(-1, 0), of(1, -maxExp)), span(-2, -1, 0), 9, api.ErrExp}, // Hi Lo
		{from(of(-1, 0), of(1, -maxExp)), span(1, 2, 0), 9, api.ErrExp},   // Hi Hi
		{from(of(1, 4-maxExp), of(1, 0)), span(3, 8, 0), 4, api.ErrExp},   // Lo Lo's Up
		{from(of(-1, 0), of(-1, 4-maxExp)), span(3, 8, 0), 4, api.ErrExp}, // Hi Lo's Down
		// An end.
		{from(of(1, -maxExp), of(1, 0)), span(1, 2, 0), 9, api.ErrExp},
		{span(1, 1, maxExp), span(1, 2, -1), 9, api.ErrExp},
		{span(3, 3, maxExp), span(1, 2, 0), 1, api.ErrExp},
		// That there are no such exponents doesn't count, if b holds 0.
		{span(1, 1, maxExp), from(api.Dyad{}, of(1, -maxExp)), 9, api.ErrDomain},
		{span(1, 1, maxExp), from(of(-1, -maxExp), api.Dyad{}), 9, api.ErrDomain},
		{span(1, 1, maxExp), from(of(-1, -maxExp), of(1, -maxExp)), 9, api.ErrDomain},
		{span(0, 0, 0), span(0, 0, 0), 9, api.ErrDomain},
		{span(0, 0, 0), from(api.Dyad{M: []uint64{}}, of(1, 0)), 9, api.ErrDomain},
		{span(0, 0, 0), from(of(1, -maxExp), of(1, maxExp)), 1, api.OK},
	} {
		got, code := arith.Div(x.a, x.b, x.p)
		if code != x.code || code != api.OK && !equal(got, api.Ival{}) {
			t.Errorf("%d: %v, %d; want %d", i, got, code, x.code)
		}
	}
}

// TestNegAndSqrtEdges: what has no root, and exponents that rounding raises.
func TestNegAndSqrtEdges(t *testing.T) {
	for i, x := range []struct {
		a    api.Ival
		p    int
		code int
		want api.Ival
	}{
		{span(-3, 3, maxExp), 2, api.OK, span(-3, 3, maxExp)},
		{span(-3, 1, maxExp), 2, api.OK, span(-1, 3, maxExp)},
		{span(-3, 1, maxExp), 1, api.ErrExp, api.Ival{}},
		{span(-1, 3, maxExp), 1, api.ErrExp, api.Ival{}},
		{span(-3, 5, 0), 1, api.OK, span(-8, 4, 0)},
	} {
		got, code := arith.Neg(x.a, x.p)
		if code != x.code || !equal(got, x.want) {
			t.Errorf("Neg %d: %v, %d; want %v, %d", i, got, code, x.want, x.code)
		}
	}
	for i, x := range []struct {
		a    api.Ival
		p    int
		code int
		want api.Ival
	}{
		{from(api.Dyad{}, of(1, maxExp)), 1, api.OK, from(api.Dyad{}, of(1, maxExp/2))},
		{from(of(1, -maxExp), of(9, 0)), 2, api.OK, from(of(1, -maxExp/2), of(3, 0))},
		{from(of(-1, -maxExp), of(9, 0)), 2, api.ErrDomain, api.Ival{}},
		{from(of(-1, maxExp), of(-1, maxExp)), 2, api.ErrDomain, api.Ival{}},
		{from(of(-1, 0), api.Dyad{}), 2, api.ErrDomain, api.Ival{}},
	} {
		got, code := arith.Sqrt(x.a, x.p)
		if code != x.code || !equal(got, x.want) {
			t.Errorf("Sqrt %d: %v, %d; want %v, %d", i, got, code, x.want, x.code)
		}
	}
}

// TestWrong hands over what may not be, beside what may and beside other things that are wrong.
func TestWrong(t *testing.T) {
	good := []api.Ival{{}, span(1, 2, 0), span(-9, 9, 7), span(1, 1, -maxExp), from(of(-1, maxExp), of(1, maxExp)), from(is(limbs(64), 0), of(1, maxBits))}
	for _, c := range calls() {
		wrong := func(a, b api.Ival, p int) {
			t.Helper()
			got, code := c.ask(a, b, p)
			check(t, c.name, got, code, api.Ival{}, api.ErrArg)
		}
		for _, a := range bad() {
			for _, b := range slices.Concat(good, bad()) {
				for _, p := range append(badPrecs, 1, 64, api.MaxPrec) {
					wrong(a, b, p)
					if c.takes == 2 {
						wrong(b, a, p)
					}
				}
			}
		}
		for _, a := range good {
			for _, b := range good {
				for _, p := range badPrecs {
					wrong(a, b, p)
				}
			}
		}
	}
}

// TestMemory: what is handed in is not changed, and what is answered is the caller's own, each list of it by itself.
func TestMemory(t *testing.T) {
	these := []api.Ival{{}, span(1, 1, 0), span(-5, 9, -3), from(of(-9, 70), is(power(200, -1), 3)), from(is(power(128, 1), -64), of(1, 99)), span(3, 1, 0), {Hi: api.Dyad{M: []uint64{4}}}}
	for _, c := range calls() {
		for _, a := range these {
			for _, b := range these {
				for _, p := range []int{1, 64, 500} {
					want, _ := c.ask(a, b, p)
					x, y := withRoom(a), withRoom(b)
					got, _ := c.ask(x, y, p)
					if changed(x, a) || changed(y, b) {
						t.Fatalf("%s changed %v, %v to %v, %v", c.name, a, b, x, y)
					}
					for _, m := range [][]uint64{x.Lo.M, x.Hi.M, y.Lo.M, y.Hi.M} {
						spoil(m)
					}
					if !equal(got, want) {
						t.Fatalf("%s of %v, %v: the answer shares memory", c.name, a, b)
					}
					spoil(got.Lo.M)
					if !alike(got.Hi, want.Hi) {
						t.Fatalf("%s of %v, %v: the ends share memory", c.name, a, b)
					}
				}
			}
		}
	}
}

// withRoom is a, with room behind its limbs that an append would write to.
func withRoom(a api.Ival) api.Ival {
	a.Lo.M = append(make([]uint64, 0, 8), a.Lo.M...)
	a.Hi.M = append(make([]uint64, 0, 8), a.Hi.M...)
	return a
}

// changed tells whether what came of withRoom(a) is something else by now.
func changed(got, a api.Ival) bool {
	want := withRoom(a)
	return !equal(got, a) || !slices.Equal(got.Lo.M[:8], want.Lo.M[:8]) || !slices.Equal(got.Hi.M[:8], want.Hi.M[:8])
}

// spoil overwrites m and the room behind it.
func spoil(m []uint64) {
	m = m[:cap(m)]
	for i := range m {
		m[i] = 0xbad
	}
}

// TestWild: of any arguments whatever no call panics; each answers what may be with so many bits, and noughts beside an error.
func TestWild(t *testing.T) {
	r := maker(2)
	edges := []int{0, 1, -1, maxExp, -maxExp, maxExp + 1, -maxExp - 1, maxBits, -maxBits, math.MaxInt, math.MinInt}
	wild := func() api.Dyad {
		d := made(r, 1+r.IntN(70), 5000)
		switch r.IntN(8) {
		case 0:
			d.M[0] &^= 1
		case 1:
			d.M[len(d.M)-1] = 0
		case 2:
			d.M = nil
		}
		if r.IntN(2) == 0 {
			d.E = edges[r.IntN(len(edges))]
		}
		return d
	}
	for range 10000 {
		a, b, p := from(wild(), wild()), from(wild(), wild()), 1+r.IntN(2200)
		for _, c := range calls() {
			got, code := c.ask(a, b, p)
			wrong := p > api.MaxPrec || !ival.May(a) || c.takes == 2 && !ival.May(b)
			if wrong != (code == api.ErrArg) || !wrong && c.domain(a, b) == (code == api.ErrDomain) {
				t.Fatalf("%s of %v, %v to %d bits: %d", c.name, a, b, p, code)
			}
			if !ival.May(got) || round.Bits(got.Lo) > p || round.Bits(got.Hi) > p || code != api.OK && !equal(got, api.Ival{}) {
				t.Fatalf("%s of %v, %v to %d bits: %v, %d", c.name, a, b, p, got, code)
			}
		}
	}
}

// smallSpan is an interval of two small numbers.
func smallSpan(r *rand.Rand) api.Ival {
	x, y := r.Int64N(17)-8, r.Int64N(17)-8
	return span(min(x, y), max(x, y), r.IntN(5)-2)
}

// points are numbers of a: its ends, and some between.
func points(r *rand.Rand, a api.Ival) []number {
	lo, hi := value(a.Lo), value(a.Hi)
	all := []number{lo, hi}
	if holdsNought(a) {
		all = append(all, number{new(big.Int), one, 0})
	}
	for range 3 {
		part := number{big.NewInt(r.Int64N(1 << 20)), one, -20}
		all = append(all, plus(lo, times(part, plus(hi, minus(lo)))))
	}
	return all
}

// valuesOf are what the operation has on numbers of a and b; for Sqrt, the squares of that.
func valuesOf(r *rand.Rand, name string, a, b api.Ival) []number {
	var all []number
	for _, x := range points(r, a) {
		for _, y := range points(r, b) {
			switch name {
			case "Add":
				all = append(all, plus(x, y))
			case "Sub":
				all = append(all, plus(x, minus(y)))
			case "Mul":
				all = append(all, times(x, y))
			case "Div":
				all = append(all, over(x, y))
			case "Neg":
				all = append(all, minus(x))
			case "Sqr":
				all = append(all, times(x, x))
			case "Sqrt":
				all = append(all, x)
			}
		}
	}
	return all
}

// next is the next number of p bits above d, which is not 0.
func next(d api.Dyad, p int) number {
	x := value(d)
	bits := x.m.BitLen()
	if d.Neg && bits == 1 {
		// Below a power of two the numbers stand twice as near.
		bits = 0
	}
	return plus(x, number{one, one, x.e + bits - p})
}

// TestLeast: of 6.2 and T1, all values are in the answer, and the answer is the least of p bits that holds them: the next number from the Lo on is above some value, and likewise from the Hi on.
func TestLeast(t *testing.T) {
	r := maker(3)
	same := func(x number) number { return x }
	square := func(x number) number { return times(x, x) }
	for range 1500 {
		a, b, p := madeSpan(r, 2, 40), madeSpan(r, 2, 40), 1+r.IntN(150)
		if r.IntN(2) == 0 {
			a, b, p = smallSpan(r), smallSpan(r), 1+r.IntN(6)
		}
		for _, c := range calls() {
			x := a
			if c.name == "Sqrt" {
				x = above(a)
			}
			got, code := c.ask(x, b, p)
			if c.domain(x, b) == (code != api.OK) {
				t.Fatalf("%s of %v, %v to %d bits: %d", c.name, x, b, p, code)
			}
			if code != api.OK {
				continue
			}
			how := same
			if c.name == "Sqrt" {
				how = square
			}
			all := valuesOf(r, c.name, x, b)
			low, high := slices.MinFunc(all, compare), slices.MaxFunc(all, compare)
			if compare(how(value(got.Lo)), low) > 0 || compare(how(value(got.Hi)), high) < 0 {
				t.Fatalf("%s of %v, %v to %d bits: not all in %v", c.name, x, b, p, got)
			}
			if len(got.Lo.M) == 0 && low.m.Sign() != 0 || len(got.Lo.M) > 0 && compare(how(next(got.Lo, p)), low) <= 0 {
				t.Fatalf("%s of %v, %v to %d bits: %v could begin later", c.name, x, b, p, got)
			}
			under := func() number { return minus(next(dyad.Neg(got.Hi), p)) }
			if len(got.Hi.M) == 0 && high.m.Sign() != 0 || len(got.Hi.M) > 0 && compare(how(under()), high) >= 0 {
				t.Fatalf("%s of %v, %v to %d bits: %v could end sooner", c.name, x, b, p, got)
			}
		}
	}
}
