package round_test

import (
	"math"
	"math/big"
	"math/rand/v2"
	"slices"
	"testing"

	"sluiceway/api"
	"sluiceway/dyad"
	"sluiceway/round"
)

const (
	maxExp  = api.MaxExp
	maxBits = 64 * api.MaxLimbs
)

var one = big.NewInt(1)

// badPrecs are numbers of bits that may not be.
var badPrecs = []int{0, -1, api.MaxPrec + 1, 4096, math.MaxInt, math.MinInt}

// bad are Dyads that may not be, each for one reason.
var bad = []api.Dyad{
	{Neg: true},
	{E: 1},
	{M: []uint64{0}},
	{M: []uint64{6}},
	{M: []uint64{0, 1}, Neg: true},
	{M: []uint64{1, 0}},
	{M: slices.Repeat([]uint64{1}, api.MaxLimbs+1)},
	{M: []uint64{1}, E: maxExp + 1},
	{M: []uint64{1}, E: -maxExp - 1, Neg: true},
	{M: []uint64{3}, E: math.MinInt},
	{M: []uint64{3}, E: math.MaxInt},
}

// parts is m times 2^e, without limits.
type parts struct {
	m *big.Int
	e int
}

func value(d api.Dyad) parts {
	z := new(big.Int)
	for _, x := range slices.Backward(d.M) {
		z.Lsh(z, 64).Or(z, new(big.Int).SetUint64(x))
	}
	if d.Neg {
		z.Neg(z)
	}
	return parts{z, d.E}
}

// expected is what a call must answer, if its value is x.
func expected(x parts) (api.Dyad, int) {
	if x.m.Sign() == 0 {
		return api.Dyad{}, api.OK
	}
	odd := new(big.Int).Abs(x.m)
	low := odd.TrailingZeroBits()
	d := api.Dyad{Neg: x.m.Sign() < 0, E: x.e + int(low)}
	if d.E < -maxExp || d.E > maxExp {
		return api.Dyad{}, api.ErrExp
	}
	for _, w := range odd.Rsh(odd, low).Bits() {
		d.M = append(d.M, uint64(w))
	}
	return d, api.OK
}

// is is the Dyad m times 2^e.
func is(m *big.Int, e int) api.Dyad {
	d, code := expected(parts{m, e})
	if code != api.OK {
		panic("a test asks for what there is not")
	}
	return d
}

// of is n times 2^e.
func of(n int64, e int) api.Dyad {
	return is(big.NewInt(n), e)
}

// power is 2^n and more.
func power(n int, more int64) *big.Int {
	z := new(big.Int).Lsh(one, uint(n))
	return z.Add(z, big.NewInt(more))
}

// limit is what a divided by b times 2^e is, rounded to p bits by asking floors alone; b is above 0.
func limit(a, b *big.Int, e, p int, up bool) parts {
	if up {
		z := limit(new(big.Int).Neg(a), b, e, p, false)
		return parts{z.m.Neg(z.m), z.e}
	}
	if a.Sign() == 0 {
		return parts{new(big.Int), 0}
	}
	j := a.BitLen() - b.BitLen() - p
	over := func(j int) (*big.Int, *big.Int) {
		return new(big.Int).Lsh(a, uint(max(0, -j))), new(big.Int).Lsh(b, uint(max(0, j)))
	}
	// 2^j is what the last of p bits counts.
	if x, y := over(j + p); x.CmpAbs(y) >= 0 {
		j++
	}
	x, y := over(j)
	return parts{x.Div(x, y), e + j} // Div rounds down, for y is above 0.
}

// rootLimit is the square root of x, rounded to p bits.
func rootLimit(x parts, p int, up bool) parts {
	n := 2*p + 10 + x.e&1
	m := new(big.Int).Lsh(x.m, uint(n))
	r := new(big.Int).Sqrt(m)
	if up && new(big.Int).Mul(r, r).Cmp(m) != 0 {
		r.Add(r, one)
	}
	return limit(r, one, (x.e-n)/2, p, up)
}

// alike tells whether two Dyads have the same parts, without asking the program.
func alike(a, b api.Dyad) bool {
	return a.Neg == b.Neg && a.E == b.E && slices.Equal(a.M, b.M)
}

// check holds an answer against the value that it must have.
func check(t *testing.T, call string, got api.Dyad, code int, want parts) {
	t.Helper()
	d, c := expected(want)
	if code != c || !alike(got, d) {
		t.Fatalf("%s: %v, %d; want %v, %d", call, got, code, d, c)
	}
}

// fails holds an answer against an error.
func fails(t *testing.T, call string, got api.Dyad, code, want int) {
	t.Helper()
	if code != want || !alike(got, api.Dyad{}) {
		t.Errorf("%s: %v, %d; want error %d beside nought", call, got, code, want)
	}
}

// tryRound holds Down and Up of d against what they must be.
func tryRound(t *testing.T, d api.Dyad, p int) {
	t.Helper()
	z := value(d)
	down, code := round.Down(d, p)
	check(t, "Down", down, code, limit(z.m, one, z.e, p, false))
	up, code := round.Up(d, p)
	check(t, "Up", up, code, limit(z.m, one, z.e, p, true))
}

// tryQuot holds both quotients of a and b, which is not 0, against what they must be.
func tryQuot(t *testing.T, a, b api.Dyad, p int) {
	t.Helper()
	x, y := value(a), value(b)
	if y.m.Sign() < 0 {
		x.m.Neg(x.m)
		y.m.Neg(y.m)
	}
	for _, up := range []bool{false, true} {
		q, code := round.Quot(a, b, p, up)
		check(t, "Quot", q, code, limit(x.m, y.m, x.e-y.e, p, up))
	}
}

// tryRoot holds both roots of d, which is not below 0, against what they must be.
func tryRoot(t *testing.T, d api.Dyad, p int) {
	t.Helper()
	for _, up := range []bool{false, true} {
		r, code := round.Root(d, p, up)
		check(t, "Root", r, code, rootLimit(value(d), p, up))
	}
}

// maker makes the same numbers at each run.
func maker(seed uint64) *rand.Rand {
	return rand.New(rand.NewPCG(seed, 0))
}

// made is one of up to n limbs, with long rows of equal bits.
func made(r *rand.Rand, n, e int) api.Dyad {
	m := make([]uint64, 1+r.IntN(n))
	for i := range m {
		switch r.IntN(4) {
		case 0:
			m[i] = math.MaxUint64
		case 1:
			m[i] = 1 << r.IntN(64)
		case 2:
			m[i] = r.Uint64()
		}
	}
	m[0] |= 1
	m[len(m)-1] |= 1 << r.IntN(64)
	return api.Dyad{Neg: r.IntN(2) == 0, M: m, E: r.IntN(2*e+1) - e}
}

// positive is d without its sign.
func positive(d api.Dyad) api.Dyad {
	d.Neg = false
	return d
}

// wide are Dyads of many bits, up to all that may be.
func wide() []api.Dyad {
	var all []api.Dyad
	for _, n := range []int{1, 2, 63, 64, 65, 128, 1999, 2000, 2001, 2095, 2096, 2097, 3999, 4000, 4001, maxBits - 1, maxBits} {
		all = append(all, is(power(n, -1), 0), is(power(n-1, 1), 3))
		all = append(all, is(new(big.Int).Neg(power(n, -1)), -7))
	}
	m := power(maxBits, -1)
	return append(all, is(m.Div(m, big.NewInt(3)), 1))
}

// precs are numbers of bits at the edges that matter.
var precs = []int{1, 2, 3, 63, 64, 65, 127, 128, 1000, 1998, 1999, api.MaxPrec}

func TestBits(t *testing.T) {
	for _, d := range append(wide(), api.Dyad{}, of(40, 7), of(-5, -maxExp), of(1, maxExp)) {
		if got, want := round.Bits(d), value(d).m.BitLen(); got != want {
			t.Errorf("Bits(%v): %d, want %d", d, got, want)
		}
	}
	for _, d := range bad {
		if got := round.Bits(d); got != 0 {
			t.Errorf("Bits(%v): %d, want 0", d, got)
		}
	}
}

func TestDownAndUp(t *testing.T) {
	for n := int64(-600); n <= 600; n++ {
		for p := 1; p <= 12; p++ {
			tryRound(t, of(n, int(n)%5), p)
		}
	}
	for _, d := range wide() {
		for _, p := range precs {
			tryRound(t, d, p)
		}
	}
	r := maker(1)
	for range 20000 {
		tryRound(t, made(r, 4, 300), 1+r.IntN(260))
	}
	for range 2000 {
		tryRound(t, made(r, api.MaxLimbs, 300), 1+r.IntN(api.MaxPrec))
	}
}

// TestExamples are those of the document.
func TestExamples(t *testing.T) {
	down, code := round.Down(of(5, 0), 2)
	check(t, "5 down", down, code, parts{big.NewInt(4), 0})
	up, code := round.Up(of(5, 0), 2)
	check(t, "5 up", up, code, parts{big.NewInt(6), 0})
	third, code := round.Quot(of(1, 0), of(3, 0), 4, false)
	check(t, "1/3 down", third, code, parts{big.NewInt(5), -4})
}

// TestRoundExp: E counts as it stands behind the last bit that is left.
func TestRoundExp(t *testing.T) {
	for i, x := range []struct {
		d              api.Dyad
		p              int
		down, up       api.Dyad
		downErr, upErr int
	}{
		{of(3, maxExp), 2, of(3, maxExp), of(3, maxExp), api.OK, api.OK},
		{of(3, maxExp), 1, api.Dyad{}, api.Dyad{}, api.ErrExp, api.ErrExp},
		{of(3, maxExp-1), 1, of(1, maxExp), api.Dyad{}, api.OK, api.ErrExp},
		{of(-3, maxExp-1), 1, api.Dyad{}, of(-1, maxExp), api.ErrExp, api.OK},
		{of(3, maxExp-2), 1, of(1, maxExp-1), of(1, maxExp), api.OK, api.OK},
		{of(7, maxExp-1), 2, of(3, maxExp), api.Dyad{}, api.OK, api.ErrExp},
		{of(13, maxExp-1), 3, api.Dyad{}, of(7, maxExp), api.ErrExp, api.OK},
		{is(power(maxBits, -1), maxExp), api.MaxPrec, api.Dyad{}, api.Dyad{}, api.ErrExp, api.ErrExp},
		{of(3, -maxExp), 1, of(1, 1-maxExp), of(1, 2-maxExp), api.OK, api.OK},
		{of(1, -maxExp), 1, of(1, -maxExp), of(1, -maxExp), api.OK, api.OK},
		{of(-1, maxExp), 1, of(-1, maxExp), of(-1, maxExp), api.OK, api.OK},
	} {
		if d, code := round.Down(x.d, x.p); code != x.downErr || !alike(d, x.down) {
			t.Errorf("%d: Down: %v, %d", i, d, code)
		}
		if d, code := round.Up(x.d, x.p); code != x.upErr || !alike(d, x.up) {
			t.Errorf("%d: Up: %v, %d", i, d, code)
		}
	}
}

func TestQuot(t *testing.T) {
	for a := int64(-40); a <= 40; a++ {
		for b := int64(-40); b <= 40; b++ {
			for p := 1; p <= 9 && b != 0; p++ {
				tryQuot(t, of(a, int(b)%7), of(b, int(a)%3), p)
			}
		}
	}
	all := append(wide(), api.Dyad{}, of(1, 0), of(-3, 4))
	for _, a := range all {
		for _, b := range all {
			for _, p := range precs {
				if len(b.M) > 0 {
					tryQuot(t, a, b, p)
				}
			}
		}
	}
	r := maker(2)
	for range 20000 {
		tryQuot(t, made(r, 4, 300), made(r, 4, 300), 1+r.IntN(200))
	}
	for range 3000 {
		tryQuot(t, made(r, api.MaxLimbs, 300), made(r, api.MaxLimbs, 300), 1+r.IntN(api.MaxPrec))
	}
}

// TestQuotNear: quotients that are whole numbers of few bits, and ones just beside, of so many bits that not all fit at once.
func TestQuotNear(t *testing.T) {
	r := maker(3)
	for range 2000 {
		bits := 1900 + r.IntN(maxBits-1900)
		b := value(positive(made(r, (bits+63)/64, 0))).m
		if r.IntN(2) == 0 {
			b = power(bits, -1)
		}
		c := value(positive(made(r, 1, 0))).m
		c.Rsh(c, uint(r.IntN(c.BitLen())))
		m := new(big.Int).Mul(b, c)
		for _, more := range []int64{-2, 0, 2} {
			a := new(big.Int).Add(m, big.NewInt(more))
			if n := a.BitLen() - int(a.TrailingZeroBits()); n > maxBits || a.Sign() == 0 {
				continue
			}
			for _, p := range []int{1 + r.IntN(64), 1 + r.IntN(api.MaxPrec), api.MaxPrec} {
				tryQuot(t, is(a, r.IntN(9)), is(b, r.IntN(9)), p)
			}
		}
	}
}

// TestQuotExp: only the quotient's own E must be in its range, behind its last bit.
func TestQuotExp(t *testing.T) {
	for i, x := range []struct {
		a, b           api.Dyad
		p              int
		down, up       api.Dyad
		downErr, upErr int
	}{
		{of(3, maxExp), of(3, 0), 5, of(1, maxExp), of(1, maxExp), api.OK, api.OK},
		{of(3, maxExp), of(3, -1), 5, api.Dyad{}, api.Dyad{}, api.ErrExp, api.ErrExp},
		{of(1, -maxExp), of(1, 1), 5, api.Dyad{}, api.Dyad{}, api.ErrExp, api.ErrExp},
		{of(1, maxExp), of(1, -maxExp), 1, api.Dyad{}, api.Dyad{}, api.ErrExp, api.ErrExp},
		{of(1, -maxExp), of(1, maxExp), 1, api.Dyad{}, api.Dyad{}, api.ErrExp, api.ErrExp},
		{of(-9, -maxExp), of(3, -maxExp), 2, of(-3, 0), of(-3, 0), api.OK, api.OK},
		{of(-9, maxExp), of(3, maxExp), 2, of(-3, 0), of(-3, 0), api.OK, api.OK},
		// 1/3 is 5 times 2^-4 or 11 times 2^-5 with 4 bits.
		{of(1, 4-maxExp), of(3, 0), 4, of(5, -maxExp), api.Dyad{}, api.OK, api.ErrExp},
		{of(-1, 4-maxExp), of(3, 0), 4, api.Dyad{}, of(-5, -maxExp), api.ErrExp, api.OK},
		{of(1, 5-maxExp), of(3, 0), 4, of(5, 1-maxExp), of(11, -maxExp), api.OK, api.OK},
		// 5/3 is 3/2 or 2 with 2 bits.
		{of(5, maxExp), of(3, 0), 2, of(3, maxExp-1), api.Dyad{}, api.OK, api.ErrExp},
		{of(5, maxExp-1), of(3, 0), 2, of(3, maxExp-2), of(1, maxExp), api.OK, api.OK},
		{of(5, maxExp), of(3, maxExp), 2, of(3, -1), of(1, 1), api.OK, api.OK},
		{api.Dyad{}, of(-3, -maxExp), 1, api.Dyad{}, api.Dyad{}, api.OK, api.OK},
		{api.Dyad{}, of(-3, maxExp), 1, api.Dyad{}, api.Dyad{}, api.OK, api.OK},
	} {
		if d, code := round.Quot(x.a, x.b, x.p, false); code != x.downErr || !alike(d, x.down) {
			t.Errorf("%d: down: %v, %d", i, d, code)
		}
		if d, code := round.Quot(x.a, x.b, x.p, true); code != x.upErr || !alike(d, x.up) {
			t.Errorf("%d: up: %v, %d", i, d, code)
		}
	}
}

func TestRoot(t *testing.T) {
	for n := int64(0); n <= 700; n++ {
		for e := -3; e <= 3; e++ {
			for p := 1; p <= 8; p++ {
				tryRoot(t, of(n, e), p)
			}
		}
	}
	for _, d := range wide() {
		for _, e := range []int{-maxExp, 1 - maxExp, 0, 1, maxExp - 1, maxExp} {
			d = api.Dyad{M: d.M, E: e}
			for _, p := range precs {
				tryRoot(t, d, p)
			}
		}
	}
	r := maker(4)
	for range 10000 {
		tryRoot(t, positive(made(r, 4, 300)), 1+r.IntN(200))
	}
	for range 1000 {
		tryRoot(t, positive(made(r, api.MaxLimbs, 300)), 1+r.IntN(api.MaxPrec))
	}
}

// TestRootNear: squares and numbers just beside, which only the last bit tells apart.
func TestRootNear(t *testing.T) {
	r := maker(5)
	for range 2000 {
		z := value(positive(made(r, api.MaxLimbs/2, 0))).m
		square := new(big.Int).Mul(z, z)
		for _, more := range []int64{-2, 0, 2} {
			m := new(big.Int).Add(square, big.NewInt(more))
			if m.Sign() <= 0 || m.BitLen() > maxBits {
				continue
			}
			d := is(m, 2*r.IntN(9)-8)
			for _, p := range []int{min(z.BitLen(), api.MaxPrec), 1 + r.IntN(api.MaxPrec)} {
				tryRoot(t, d, p)
			}
		}
	}
}

// TestDomain: what has no value, beside a p that may be.
func TestDomain(t *testing.T) {
	for _, p := range []int{1, 53, api.MaxPrec} {
		for _, up := range []bool{false, true} {
			for _, d := range []api.Dyad{{}, of(1, 0), of(-5, maxExp), is(power(maxBits, -1), -maxExp)} {
				q, code := round.Quot(d, api.Dyad{}, p, up)
				fails(t, "by 0", q, code, api.ErrDomain)
				q, code = round.Quot(d, api.Dyad{M: []uint64{}}, p, up)
				fails(t, "by 0 of no limbs", q, code, api.ErrDomain)
			}
			for _, d := range []api.Dyad{of(-1, 0), of(-1, -maxExp), of(-9, maxExp), is(new(big.Int).Neg(power(maxBits, -1)), 1)} {
				r, code := round.Root(d, p, up)
				fails(t, "Root", r, code, api.ErrDomain)
			}
		}
	}
}

// TestWrong hands over what may not be, beside what may, and beside other things that are wrong.
func TestWrong(t *testing.T) {
	good := []api.Dyad{{}, of(1, 0), of(-1, 0), of(3, maxExp), of(-3, -maxExp), is(power(maxBits, -1), 0)}
	wrong := func(a, b api.Dyad, p int) {
		t.Helper()
		for _, up := range []bool{false, true} {
			q, code := round.Quot(a, b, p, up)
			fails(t, "Quot", q, code, api.ErrArg)
		}
	}
	alone := func(d api.Dyad, p int) {
		t.Helper()
		r, code := round.Down(d, p)
		fails(t, "Down", r, code, api.ErrArg)
		r, code = round.Up(d, p)
		fails(t, "Up", r, code, api.ErrArg)
		for _, up := range []bool{false, true} {
			r, code = round.Root(d, p, up)
			fails(t, "Root", r, code, api.ErrArg)
		}
	}
	for _, p := range badPrecs {
		for _, a := range slices.Concat(good, bad) {
			alone(a, p)
			for _, b := range slices.Concat(good, bad) {
				wrong(a, b, p)
			}
		}
	}
	for _, p := range []int{1, 64, api.MaxPrec} {
		for _, d := range bad {
			alone(d, p)
			for _, o := range slices.Concat(good, bad) {
				wrong(d, o, p)
				wrong(o, d, p)
			}
		}
	}
}

// calls are all calls that answer a Dyad, as one shape.
func calls() map[string]func(a, b api.Dyad, p int) (api.Dyad, int) {
	return map[string]func(a, b api.Dyad, p int) (api.Dyad, int){
		"Down":      func(a, _ api.Dyad, p int) (api.Dyad, int) { return round.Down(a, p) },
		"Up":        func(a, _ api.Dyad, p int) (api.Dyad, int) { return round.Up(a, p) },
		"Quot down": func(a, b api.Dyad, p int) (api.Dyad, int) { return round.Quot(a, b, p, false) },
		"Quot up":   func(a, b api.Dyad, p int) (api.Dyad, int) { return round.Quot(a, b, p, true) },
		"Root down": func(a, _ api.Dyad, p int) (api.Dyad, int) { return round.Root(a, p, false) },
		"Root up":   func(a, _ api.Dyad, p int) (api.Dyad, int) { return round.Root(a, p, true) },
	}
}

// TestMemory: what is handed in is not changed, and what is answered is the caller's own.
func TestMemory(t *testing.T) {
	all := []api.Dyad{{}, of(1, 0), of(-1, 0), of(9, -3), of(-9, 70), is(power(200, -1), 3), is(power(128, 1), -64), {M: []uint64{4}}, {M: []uint64{1, 0}}, {Neg: true}}
	for name, call := range calls() {
		for _, a := range all {
			for _, b := range all {
				for _, p := range []int{1, 64, 300} {
					want, _ := call(a, b, p)
					x, y := withRoom(a), withRoom(b)
					got, _ := call(x, y, p)
					if changed(x, a) || changed(y, b) {
						t.Fatalf("%s changed %v, %v to %v, %v", name, a, b, x, y)
					}
					spoil(x.M)
					spoil(y.M)
					if !alike(got, want) {
						t.Fatalf("%s of %v, %v: the answer shares memory", name, a, b)
					}
				}
			}
		}
	}
}

// withRoom is d, with room behind its limbs that an append would write to.
func withRoom(d api.Dyad) api.Dyad {
	d.M = append(make([]uint64, 0, 8), d.M...)
	return d
}

// changed tells whether what came of withRoom(d) is something else by now.
func changed(got, d api.Dyad) bool {
	return !alike(got, d) || !slices.Equal(got.M[:cap(got.M)], withRoom(d).M[:8])
}

// spoil overwrites m and the room behind it.
func spoil(m []uint64) {
	m = m[:cap(m)]
	for i := range m {
		m[i] = 0xbad
	}
}

// TestWild: of any arguments whatever no call panics; each answers what may be with so many bits, and nought beside an error.
func TestWild(t *testing.T) {
	r := maker(6)
	edges := []int{0, 1, -1, maxExp, -maxExp, maxExp + 1, -maxExp - 1, maxBits, -maxBits, math.MaxInt, math.MinInt}
	wild := func() api.Dyad {
		d := made(r, 1+r.IntN(70), 5000)
		switch r.IntN(8) {
		case 0:
			d.M[0] &^= 1
		case 1:
			d.M[len(d.M)-1] = 0
		case 2:
			d.M = nil
		}
		if r.IntN(2) == 0 {
			d.E = edges[r.IntN(len(edges))]
		}
		return d
	}
	for range 5000 {
		a, b, p := wild(), wild(), 1+r.IntN(2200)
		if r.IntN(4) == 0 {
			p = badPrecs[r.IntN(len(badPrecs))]
		}
		for name, call := range calls() {
			d, code := call(a, b, p)
			wrong := !dyad.May(a) || p < 1 || p > api.MaxPrec || !dyad.May(b) && (name == "Quot down" || name == "Quot up")
			if wrong != (code == api.ErrArg) || !dyad.May(d) || code == api.OK && round.Bits(d) > p || code != api.OK && !alike(d, api.Dyad{}) {
				t.Fatalf("%s of %v, %v, %d: %v, %d", name, a, b, p, d, code)
			}
		}
	}
}

// TestBetween: of 3.3, the exact value lies between Down and Up, and is one of them only if it is both; with more bits they come nearer, and what is rounded stays as it is.
func TestBetween(t *testing.T) {
	r := maker(7)
	get := func(d api.Dyad, code int) api.Dyad {
		t.Helper()
		if code != api.OK {
			t.Fatal("error", code)
		}
		return d
	}
	ordered := func(what string, ds ...api.Dyad) {
		t.Helper()
		for i := range len(ds) - 1 {
			if dyad.Cmp(ds[i], ds[i+1]) > 0 {
				t.Fatalf("%s: %v is above %v", what, ds[i], ds[i+1])
			}
		}
	}
	for range 5000 {
		d, b, p := made(r, 6, 300), positive(made(r, 6, 300)), 1+r.IntN(400)
		down, up := get(round.Down(d, p)), get(round.Up(d, p))
		ordered("rounded", down, get(round.Down(d, p+1)), d, get(round.Up(d, p+1)), up)
		if alike(down, d) != alike(up, d) || alike(down, up) != (round.Bits(d) <= p) {
			t.Fatalf("only one of %v, %v is %v", down, up, d)
		}
		for _, x := range []api.Dyad{down, up} {
			if !alike(get(round.Down(x, p)), x) || !alike(get(round.Up(x, p)), x) {
				t.Fatalf("%v is rounded again", x)
			}
		}
		low, high := get(round.Quot(d, b, p, false)), get(round.Quot(d, b, p, true))
		ordered("quotients", low, get(round.Quot(d, b, p+1, false)), get(round.Quot(d, b, p+1, true)), high)
		ordered("quotients times b", get(dyad.Mul(low, b)), d, get(dyad.Mul(high, b)))
		low, high = get(round.Root(b, p, false)), get(round.Root(b, p, true))
		ordered("roots", low, get(round.Root(b, p+1, false)), get(round.Root(b, p+1, true)), high)
		ordered("squares of roots", get(dyad.Mul(low, low)), b, get(dyad.Mul(high, high)))
	}
}
