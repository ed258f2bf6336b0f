package expo_test

import (
	"math"
	"math/big"
	"math/rand/v2"
	"slices"
	"strings"
	"testing"

	"sluiceway/api"
	"sluiceway/dyad"
	"sluiceway/expo"
	"sluiceway/ival"
	"sluiceway/round"
)

const (
	maxExp  = api.MaxExp
	maxBits = 64 * api.MaxLimbs
	// most is how many bits may be asked for, least the least E.
	most  = 300
	least = -400
	// The reference reckons in units of 2^-units, and is true to 2^slack of them: its terms are at most 2^92, and so are their errors, of which there are some hundreds.
	units = 1400
	slack = 120
)

var one = big.NewInt(1)

// precs are numbers of bits at the edges.
var precs = []int{1, 2, 3, 53, 63, 64, 65, 299, most}

// badPrecs are numbers of bits that may not be.
var badPrecs = []int{0, -1, most + 1, api.MaxPrec, math.MaxInt, math.MinInt}

// badDyads are Dyads that may not be, each for one reason.
var badDyads = []api.Dyad{
	{Neg: true},
	{E: 1},
	{M: []uint64{0}},
	{M: []uint64{6}},
	{M: []uint64{0, 1}, Neg: true},
	{M: []uint64{1, 0}},
	{M: slices.Repeat([]uint64{1}, api.MaxLimbs+1), E: -8000},
	{M: []uint64{1}, E: maxExp + 1},
	{M: []uint64{1}, E: -maxExp - 1, Neg: true},
	{M: []uint64{3}, E: math.MinInt},
	{M: []uint64{3}, E: math.MaxInt},
}

// bad are intervals that may not be: for an end, or for their order.
func bad() []api.Ival {
	var all []api.Ival
	for _, d := range badDyads {
		all = append(all, from(d, d), from(of(-9, 0), d), from(d, of(9, 0)))
	}
	return append(all,
		from(of(3, 0), of(1, 0)),
		from(of(1, least), api.Dyad{}),
		from(api.Dyad{}, of(-1, least)),
		from(of(65, 0), of(-65, 0)),
		from(of(1, 0), of(1, least-1)),
		from(of(-1, 0), of(-1, 1)))
}

// is is the Dyad m times 2^e.
func is(m *big.Int, e int) api.Dyad {
	if m.Sign() == 0 {
		return api.Dyad{}
	}
	odd := new(big.Int).Abs(m)
	low := odd.TrailingZeroBits()
	d := api.Dyad{Neg: m.Sign() < 0, E: e + int(low)}
	for _, w := range odd.Rsh(odd, low).Bits() {
		d.M = append(d.M, uint64(w))
	}
	return d
}

// of is n times 2^e.
func of(n int64, e int) api.Dyad {
	return is(big.NewInt(n), e)
}

// from is from a to b.
func from(a, b api.Dyad) api.Ival {
	return api.Ival{Lo: a, Hi: b}
}

// power is 2^n and more.
func power(n int, more int64) *big.Int {
	z := new(big.Int).Lsh(one, uint(n))
	return z.Add(z, big.NewInt(more))
}

// whole is d in the reference's units, of which it must be a multiple.
func whole(d api.Dyad) *big.Int {
	z := new(big.Int)
	for _, x := range slices.Backward(d.M) {
		z.Lsh(z, 64).Or(z, new(big.Int).SetUint64(x))
	}
	if d.Neg {
		z.Neg(z)
	}
	if d.E < -units {
		panic("a test asks for what is too fine")
	}
	return z.Lsh(z, uint(d.E+units))
}

// alike tells whether two Dyads have the same parts, without asking the program.
func alike(a, b api.Dyad) bool {
	return a.Neg == b.Neg && a.E == b.E && slices.Equal(a.M, b.M)
}

// equal tells whether two intervals have the same parts.
func equal(a, b api.Ival) bool {
	return alike(a.Lo, b.Lo) && alike(a.Hi, b.Hi)
}

// raised is e^x in the reference's units, as x is, by the plain sum of its powers: as far as that is true.
func raised(x *big.Int) *big.Int {
	term, all := power(units, 0), power(units, 0)
	for i := int64(1); term.Sign() != 0; i++ {
		term.Mul(term, x)
		term.Quo(term, power(units, 0))
		term.Quo(term, big.NewInt(i))
		all.Add(all, term)
	}
	return all
}

// between are the reference's bounds of e^x.
func between(x *big.Int) (*big.Int, *big.Int) {
	y, off := raised(x), power(slack, 0)
	return new(big.Int).Sub(y, off), off.Add(y, off)
}

// cut is the Down to p bits of x, which is above 0, and how much its last bit counts.
func cut(x *big.Int, p int) (*big.Int, *big.Int) {
	n := uint(x.BitLen() - p)
	down := new(big.Int).Rsh(x, n)
	return down.Lsh(down, n), new(big.Int).Lsh(one, n)
}

// wanted are the Down and the Up to p bits of what lies between two bounds, and is no Dyad itself.
func wanted(t *testing.T, lo, hi *big.Int, p int) (api.Dyad, api.Dyad) {
	t.Helper()
	down, last := cut(lo, p)
	if again, _ := cut(hi, p); again.Cmp(down) != 0 {
		t.Fatal("the reference is not fine enough")
	}
	return is(down, -units), is(new(big.Int).Add(down, last), -units)
}

// try holds Exp, of one number to several bits, and Over, of it alone, against the reference.
func try(t *testing.T, d api.Dyad, ps ...int) {
	t.Helper()
	lo, hi := between(whole(d))
	for _, p := range ps {
		low, high := of(1, 0), of(1, 0)
		if len(d.M) > 0 {
			low, high = wanted(t, lo, hi, p)
		}
		if got, code := expo.Exp(d, p, false); code != api.OK || !alike(got, low) {
			t.Fatalf("Exp of %v to %d bits, down: %v, %d; want %v", d, p, got, code, low)
		}
		if got, code := expo.Exp(d, p, true); code != api.OK || !alike(got, high) {
			t.Fatalf("Exp of %v to %d bits, up: %v, %d; want %v", d, p, got, code, high)
		}
		if got, code := expo.Over(from(d, d), p); code != api.OK || !equal(got, from(low, high)) {
			t.Fatalf("Over of %v alone to %d bits: %v, %d; want from %v to %v", d, p, got, code, low, high)
		}
	}
}

// tryBoth holds d and its opposite against the reference.
func tryBoth(t *testing.T, d api.Dyad, ps ...int) {
	t.Helper()
	try(t, d, ps...)
	try(t, dyad.Neg(d), ps...)
}

// maker makes the same numbers at each run.
func maker(seed uint64) *rand.Rand {
	return rand.New(rand.NewPCG(seed, 0))
}

// digits is a number below 2^n, with long rows of equal bits.
func digits(r *rand.Rand, n int) *big.Int {
	z := new(big.Int)
	for z.BitLen() < n {
		w := []uint64{0, math.MaxUint64, 1 << r.IntN(64), r.Uint64()}[r.IntN(4)]
		z.Lsh(z, 64).Or(z, new(big.Int).SetUint64(w)).Or(z, one)
	}
	return z.Rsh(z, uint(z.BitLen()-n))
}

// made is a Dyad that has an exp: of any size, and of few bits or of many.
func made(r *rand.Rand) api.Dyad {
	n := 1 + r.IntN(406)
	if r.IntN(2) == 0 {
		n = 1 + r.IntN(64)
	}
	m := digits(r, n)
	if r.IntN(2) == 0 {
		m.Neg(m)
	}
	// It is less than 2^(n+e), and its E not below the least.
	return is(m, least+r.IntN(6-least-n+1))
}

// madeSpan is an interval of two that are made so, or of one.
func madeSpan(r *rand.Rand) api.Ival {
	a, b := made(r), made(r)
	if r.IntN(8) == 0 {
		b = a
	}
	if whole(a).Cmp(whole(b)) > 0 {
		a, b = b, a
	}
	return from(a, b)
}

// TestExamples are those of the document.
func TestExamples(t *testing.T) {
	for p := 1; p <= most; p++ {
		for _, nought := range []api.Dyad{{}, {M: []uint64{}}} {
			for _, up := range []bool{false, true} {
				if got, code := expo.Exp(nought, p, up); code != api.OK || !alike(got, of(1, 0)) {
					t.Fatalf("e^0 to %d bits: %v, %d", p, got, code)
				}
			}
		}
	}
	if got, code := expo.Exp(of(1, 0), 8, false); code != api.OK || !alike(got, of(173, -6)) {
		t.Errorf("e^1 to 8 bits, down: %v, %d", got, code)
	}
	if got, code := expo.Exp(of(1, 0), 8, true); code != api.OK || !alike(got, of(87, -5)) {
		t.Errorf("e^1 to 8 bits, up: %v, %d", got, code)
	}
}

// TestDigits holds the calls, and the reference too, against digits that are known from elsewhere.
func TestDigits(t *testing.T) {
	for _, x := range []struct {
		d    api.Dyad
		text string
	}{
		{of(1, 0), "2.71828182845904523536028747135266249775724709369995957496696762772407663035354759457138217852516"},
		{of(-1, 0), "0.36787944117144232159552377016146086744581113103176783450783680169746149574489980335714727434591"},
		{of(1, -1), "1.64872127070012814684865078781416357165377610071014801157507931164066102119421560863277652005636"},
		{of(1, 1), "7.38905609893065022723042746057500781318031557055184732408712782252257379607905776338431248507912"},
		{of(10, 0), "22026.4657948067165169579006452842443663535126185567810742354263552252028185707925751991209681645"},
	} {
		_, after, _ := strings.Cut(x.text, ".")
		n, _ := new(big.Int).SetString(strings.Replace(x.text, ".", "", 1), 10)
		ten := new(big.Int).Exp(big.NewInt(10), big.NewInt(int64(len(after))), nil)
		low := new(big.Int).Quo(new(big.Int).Lsh(n, units), ten)
		high := new(big.Int).Quo(new(big.Int).Lsh(n.Add(n, one), units), ten)
		high.Add(high, one)
		if lo, hi := between(whole(x.d)); lo.Cmp(high) > 0 || hi.Cmp(low) < 0 {
			t.Errorf("the reference of %v", x.d)
		}
		for _, p := range precs {
			down, _ := expo.Exp(x.d, p, false)
			up, _ := expo.Exp(x.d, p, true)
			if whole(down).Cmp(high) > 0 || whole(up).Cmp(low) < 0 {
				t.Errorf("e^%v to %d bits: from %v to %v", x.d, p, down, up)
			}
		}
	}
}

// TestSmall: numbers of few bits, all over the domain.
func TestSmall(t *testing.T) {
	for n := int64(0); n <= 64; n++ {
		tryBoth(t, of(n, 0), 1, 2, 3, 4, 5, 6, 7, 8, most)
	}
	for e := -1; e >= -12; e-- {
		for n := int64(1); n <= 33; n += 2 {
			tryBoth(t, of(n, e), 1, 2, 3, 4, 5, 6, 7, 8, most)
		}
	}
}

// TestAnswers: numbers of any size and of up to all bits, to up to all bits.
func TestAnswers(t *testing.T) {
	r := maker(1)
	for range 3000 {
		try(t, made(r), 1+r.IntN(10), 1+r.IntN(most), 1+r.IntN(most))
	}
}

// TestBits: some numbers to all bits.
func TestBits(t *testing.T) {
	r := maker(2)
	all := make([]int, most)
	for i := range all {
		all[i] = i + 1
	}
	for _, d := range []api.Dyad{of(1, 0), of(64, 0), of(3, -2), of(1, -200), of(1, least), made(r), made(r), made(r)} {
		tryBoth(t, d, all...)
	}
}

// TestEdges: the greatest and the least numbers, and those of the most bits.
func TestEdges(t *testing.T) {
	ends := []api.Dyad{
		of(64, 0),
		is(power(6-least, -1), least), // 64 less the finest that there is
		is(power(6-least-1, 1), least),
		is(power(5-least, 1), least),
		of(63, 0),
		is(power(-least, -1), least), // just below 1
		is(power(-least, 1), least),  // just above 1
		of(1, least),
		of(3, least),
		of(5, least),
		of(1, least+1),
		is(power(100, -1), least),
		is(power(100, 1), least),
	}
	for _, d := range ends {
		tryBoth(t, d, precs...)
	}
	for e := least; e <= 6; e++ {
		tryBoth(t, of(1, e), max(1, min(most, -e)), max(1, min(most, 1-e)), max(1, min(most, 2-e)), most)
	}
}

// log is the logarithm of y in the reference's units, as y is: by Newton's way, from a float.
func log(y *big.Int) *big.Int {
	f, _ := new(big.Float).SetMantExp(new(big.Float).SetInt(y), -units).Float64()
	x, _ := new(big.Float).SetMantExp(big.NewFloat(math.Log(f)), units).Int(nil)
	for range 5 {
		step := raised(new(big.Int).Neg(x))
		step.Mul(step, y).Rsh(step, units).Sub(step, power(units, 0))
		x.Add(x, step)
	}
	return x
}

// TestNear: numbers of which e^d is so near to a number of p bits that only hundreds of bits tell on which side of it it is.
func TestNear(t *testing.T) {
	r := maker(3)
	for range 150 {
		p := 1 + r.IntN(most)
		y := digits(r, p)
		y.SetBit(y, p-1, 1).Lsh(y, uint(units-p+r.IntN(180)-90))
		x := log(y)
		if off := raised(x); off.Sub(off, y).BitLen() > units/2 {
			t.Fatal("the reference's logarithm")
		}
		x.Rsh(x, uint(least+units))
		for range 2 {
			if d := is(x, least); len(d.M) > 0 {
				try(t, d, p, min(p+1, most), max(p-1, 1))
			}
			x.Add(x, one)
		}
	}
}

// TestNearOne: d is the beginning of a logarithm's sum, so that e^d is much nearer to a number of p bits than d is fine.
func TestNearOne(t *testing.T) {
	for k := 2; k < most; k += 3 {
		for m := int64(1); m <= 4; m++ {
			// log(1+z) is z - z^2/2 + z^3/3 and so on; z is m times 2^-k.
			z, d := of(m, -k), api.Dyad{}
			for i, part := range []api.Dyad{z, is(big.NewInt(-m*m), -2*k-1), is(big.NewInt(m*m*m/3), -3*k)} {
				if i == 2 && m != 3 || part.E < least {
					break
				}
				sum := new(big.Int).Add(whole(d), whole(part))
				d = is(sum, -units)
				try(t, d, min(most, k), min(most, k+1), most)
			}
			// And e^z itself begins as 1+z.
			tryBoth(t, z, min(most, k), min(most, k+1), min(most, 2*k+2), most)
		}
	}
}

// tryOver holds Over against the reference.
func tryOver(t *testing.T, a api.Ival, p int) {
	t.Helper()
	want := from(of(1, 0), of(1, 0))
	if len(a.Lo.M) > 0 {
		lo, hi := between(whole(a.Lo))
		want.Lo, _ = wanted(t, lo, hi, p)
	}
	if len(a.Hi.M) > 0 {
		lo, hi := between(whole(a.Hi))
		_, want.Hi = wanted(t, lo, hi, p)
	}
	if got, code := expo.Over(a, p); code != api.OK || !equal(got, want) {
		t.Fatalf("Over of %v to %d bits: %v, %d; want %v", a, p, got, code, want)
	}
}

func TestOver(t *testing.T) {
	rising := []api.Dyad{of(-64, 0), of(-3, 0), of(-1, 0), of(-1, -1), of(-1, least), {}, of(1, least), of(1, -7), of(1, 0), of(5, 0), of(64, 0)}
	for i, a := range rising {
		for _, b := range rising[i:] {
			for _, p := range precs {
				tryOver(t, from(a, b), p)
			}
		}
	}
	r := maker(4)
	for range 1000 {
		tryOver(t, madeSpan(r), 1+r.IntN(most))
	}
}

// fails holds both calls, with d as an end of intervals too, against an error.
func fails(t *testing.T, d api.Dyad, p, want int) {
	t.Helper()
	for _, up := range []bool{false, true} {
		if got, code := expo.Exp(d, p, up); code != want || !alike(got, api.Dyad{}) {
			t.Errorf("Exp of %v to %d bits: %v, %d; want %d", d, p, got, code, want)
		}
	}
	failsOver(t, from(d, d), p, want)
}

func failsOver(t *testing.T, a api.Ival, p, want int) {
	t.Helper()
	if got, code := expo.Over(a, p); code != want || !equal(got, api.Ival{}) {
		t.Errorf("Over of %v to %d bits: %v, %d; want %d", a, p, got, code, want)
	}
}

// far are numbers above 64 that may be: of which some are too fine, too.
func far() []api.Dyad {
	return []api.Dyad{of(65, 0), of(129, -1), is(power(6-least, 1), least), is(power(7-least, 1), least-1), is(power(maxBits-1, 1), 7-maxBits), of(1, 7), of(1, 1000), of(1, maxExp), is(power(maxBits, -1), maxExp), is(power(maxBits, -1), 6-maxBits+1)}
}

// fine are numbers from 0 to 64 that may be, but whose E is too low.
func fine() []api.Dyad {
	return []api.Dyad{of(1, least-1), of(3, least-1), of(5, least-2), is(power(6-least+1, -1), least-1), is(power(1-least, 1), least-1), is(power(maxBits, -1), 6-maxBits), of(1, -1000), of(1, -maxExp), is(power(maxBits, -1), -maxExp)}
}

// TestDomain: numbers that have no exp, also if they are too fine, and though the other end may be.
func TestDomain(t *testing.T) {
	for _, d := range far() {
		n := dyad.Neg(d)
		for _, p := range precs {
			fails(t, d, p, api.ErrDomain)
			fails(t, n, p, api.ErrDomain)
			failsOver(t, from(n, d), p, api.ErrDomain)
			for _, other := range slices.Concat(fine(), []api.Dyad{{}, of(1, 0), of(64, 0), of(-64, 0), of(1, least)}) {
				failsOver(t, from(other, d), p, api.ErrDomain)
				failsOver(t, from(dyad.Neg(other), d), p, api.ErrDomain)
				failsOver(t, from(n, other), p, api.ErrDomain)
				failsOver(t, from(n, dyad.Neg(other)), p, api.ErrDomain)
			}
		}
	}
}

// TestFine: numbers that are too fine, though the other end may be.
func TestFine(t *testing.T) {
	for _, d := range fine() {
		n := dyad.Neg(d)
		for _, p := range precs {
			fails(t, d, p, api.ErrLimb)
			fails(t, n, p, api.ErrLimb)
			failsOver(t, from(n, d), p, api.ErrLimb)
			for _, a := range []api.Ival{from(d, of(64, 0)), from(of(-64, 0), d), from(api.Dyad{}, d), from(n, of(64, 0)), from(of(-64, 0), n), from(n, api.Dyad{})} {
				failsOver(t, a, p, api.ErrLimb)
			}
		}
	}
}

// TestWrong hands over what may not be, beside what may and beside other things that are wrong.
func TestWrong(t *testing.T) {
	ps := slices.Concat(precs, badPrecs)
	for _, p := range ps {
		for _, d := range badDyads {
			fails(t, d, p, api.ErrArg)
			for _, other := range slices.Concat(far(), fine()) {
				failsOver(t, from(d, other), p, api.ErrArg)
				failsOver(t, from(dyad.Neg(other), d), p, api.ErrArg)
			}
		}
		for _, a := range bad() {
			failsOver(t, a, p, api.ErrArg)
		}
	}
	for _, p := range badPrecs {
		for _, d := range slices.Concat(far(), fine(), []api.Dyad{{}, of(1, 0), of(-5, -3), of(64, 0), of(1, least)}) {
			fails(t, d, p, api.ErrArg)
			failsOver(t, from(of(-64, 0), d), p, api.ErrArg)
		}
	}
}

// TestMemory: what is handed in is not changed, and what is answered is the caller's own, each list of it by itself.
func TestMemory(t *testing.T) {
	ds := []api.Dyad{{}, of(1, 0), of(-5, -3), of(1, least), is(power(200, -1), -199), of(65, 0), of(1, least-1), {M: []uint64{4}}, {M: []uint64{1, 0}}, {Neg: true}}
	for _, a := range ds {
		for _, p := range []int{1, 64, most} {
			for _, up := range []bool{false, true} {
				want, _ := expo.Exp(a, p, up)
				x := withRoom(a)
				got, _ := expo.Exp(x, p, up)
				if changed(x, a) {
					t.Fatalf("Exp changed %v to %v", a, x)
				}
				spoil(x.M)
				if !alike(got, want) {
					t.Fatalf("Exp of %v: the answer shares memory", a)
				}
				spoil(got.M)
				if again, _ := expo.Exp(a, p, up); !alike(again, want) {
					t.Fatalf("Exp of %v: the answer is kept", a)
				}
			}
			for _, b := range ds {
				want, _ := expo.Over(from(a, b), p)
				x := from(withRoom(a), withRoom(b))
				got, _ := expo.Over(x, p)
				if changed(x.Lo, a) || changed(x.Hi, b) {
					t.Fatalf("Over changed %v, %v to %v", a, b, x)
				}
				spoil(x.Lo.M)
				spoil(x.Hi.M)
				if !equal(got, want) {
					t.Fatalf("Over of %v, %v: the answer shares memory", a, b)
				}
				spoil(got.Lo.M)
				if !alike(got.Hi, want.Hi) {
					t.Fatalf("Over of %v, %v: the ends share memory", a, b)
				}
			}
		}
	}
}

// withRoom is d, with room behind its limbs that an append would write to.
func withRoom(d api.Dyad) api.Dyad {
	d.M = append(make([]uint64, 0, 8), d.M...)
	return d
}

// changed tells whether what came of withRoom(d) is something else by now.
func changed(got, d api.Dyad) bool {
	return !alike(got, d) || !slices.Equal(got.M[:8], withRoom(d).M[:8])
}

// spoil overwrites m and the room behind it.
func spoil(m []uint64) {
	m = m[:cap(m)]
	for i := range m {
		m[i] = 0xbad
	}
}

// TestWild: of any arguments whatever no call panics; each answers what may be with so many bits, and noughts beside an error.
func TestWild(t *testing.T) {
	r := maker(5)
	edges := []int{0, 1, -1, least, least - 1, maxExp, -maxExp, maxExp + 1, -maxExp - 1, math.MaxInt, math.MinInt}
	wild := func() api.Dyad {
		d := made(r)
		switch r.IntN(16) {
		case 0:
			d.M[0] &^= 1
		case 1:
			d.M[len(d.M)-1] = 0
		case 2:
			d.M = nil
		case 3:
			d.M = slices.Repeat([]uint64{r.Uint64() | 1}, r.IntN(70))
		case 4:
			d.E = edges[r.IntN(len(edges))]
		case 5:
			d.E += r.IntN(2000) - 1000
		}
		return d
	}
	within := func(d api.Dyad) bool { return dyad.Cmp(d, of(64, 0)) <= 0 && dyad.Cmp(d, of(-64, 0)) >= 0 }
	expected := func(a api.Ival, p int) int {
		switch {
		case !ival.May(a) || p < 1 || p > most:
			return api.ErrArg
		case !within(a.Lo) || !within(a.Hi):
			return api.ErrDomain
		case a.Lo.E < least || a.Hi.E < least:
			return api.ErrLimb
		}
		return api.OK
	}
	for range 10000 {
		a, p := from(wild(), wild()), 1+r.IntN(320)
		if got, code := expo.Over(a, p); code != expected(a, p) || !ival.May(got) || max(round.Bits(got.Lo), round.Bits(got.Hi)) > p || code != api.OK && !equal(got, api.Ival{}) {
			t.Fatalf("Over of %v to %d bits: %v, %d", a, p, got, code)
		}
		for _, up := range []bool{false, true} {
			if got, code := expo.Exp(a.Lo, p, up); code != expected(from(a.Lo, a.Lo), p) || !dyad.May(got) || round.Bits(got) > p || code != api.OK && !alike(got, api.Dyad{}) {
				t.Fatalf("Exp of %v to %d bits: %v, %d", a.Lo, p, got, code)
			}
		}
	}
}

// TestLeast: of 7.2 and T1, e^x of all x of an interval is in the answer, and the answer is the least of p bits that holds them: the next number from the Lo on is above e^Lo, the next from the Hi on is below e^Hi.
func TestLeast(t *testing.T) {
	r := maker(6)
	for range 600 {
		a, p := madeSpan(r), 1+r.IntN(most)
		got, code := expo.Over(a, p)
		if code != api.OK || round.Bits(got.Lo) > p || round.Bits(got.Hi) > p {
			t.Fatalf("Over of %v to %d bits: %v, %d", a, p, got, code)
		}
		lo, hi := whole(a.Lo), whole(a.Hi)
		for i := range int64(5) {
			// From the one end to the other, by quarters.
			x := new(big.Int).Sub(hi, lo)
			x.Mul(x, big.NewInt(i)).Rsh(x, 2).Add(x, lo)
			down, up := between(x)
			if whole(got.Lo).Cmp(up) > 0 || whole(got.Hi).Cmp(down) < 0 {
				t.Fatalf("Over of %v to %d bits: not all in %v", a, p, got)
			}
		}
		if above(whole(got.Lo), p).Cmp(raised(lo)) <= 0 {
			t.Fatalf("Over of %v to %d bits: %v could begin later", a, p, got)
		}
		if below(whole(got.Hi), p).Cmp(raised(hi)) >= 0 {
			t.Fatalf("Over of %v to %d bits: %v could end sooner", a, p, got)
		}
		if more, _ := expo.Over(a, min(p+1, most)); !ival.Within(more, got) {
			t.Fatalf("Over of %v to %d bits: %v; to one more: %v", a, p, got, more)
		}
	}
}

// above is the next number of p bits above x, which is above 0.
func above(x *big.Int, p int) *big.Int {
	_, last := cut(x, p)
	return last.Add(last, x)
}

// below is the next number of p bits below x, which is above 0.
func below(x *big.Int, p int) *big.Int {
	_, last := cut(new(big.Int).Sub(x, one), p)
	return last.Sub(x, last)
}
