package dyad_test

import (
	"math"
	"math/big"
	"math/rand/v2"
	"slices"
	"testing"

	"sluiceway/api"
	"sluiceway/dyad"
)

const (
	full    = math.MaxUint64
	maxExp  = api.MaxExp
	maxBits = 64 * api.MaxLimbs
)

// bad are Dyads that may not be, each for one reason.
var bad = []api.Dyad{
	{Neg: true},
	{E: 1},
	{E: -1},
	{Neg: true, M: []uint64{}},
	{M: []uint64{}, E: math.MinInt},
	{M: []uint64{0}},
	{M: []uint64{2}},
	{M: []uint64{1 << 63}, E: 5},
	{M: []uint64{0, 1}, Neg: true},
	{M: []uint64{1, 0}},
	{M: append(ones(64*3), 0)},
	{M: ones(maxBits + 1)},
	{M: ones(10 * maxBits), Neg: true},
	{M: []uint64{1}, E: maxExp + 1},
	{M: []uint64{1}, E: -maxExp - 1},
	{M: []uint64{3}, E: math.MaxInt, Neg: true},
	{M: []uint64{3}, E: math.MinInt},
}

// ones is 2^n - 1.
func ones(n int) []uint64 {
	m := slices.Repeat([]uint64{full}, (n+63)/64)
	if n%64 > 0 {
		m[n/64] = 1<<(n%64) - 1
	}
	return m
}

// apart is 2^n + 1, for n above 0.
func apart(n int) []uint64 {
	m := make([]uint64, n/64+1)
	m[n/64] = 1 << (n % 64)
	m[0] |= 1
	return m
}

// of is n times 2^e.
func of(n int64, e int) api.Dyad {
	return is(n < 0, []uint64{uint64(max(n, -n))}, e)
}

// is is the Dyad of these parts, its M made odd.
func is(neg bool, m []uint64, e int) api.Dyad {
	d, code := expected(exact(neg, m, e))
	if code != api.OK {
		panic("a test asks for what there is not")
	}
	return d
}

// number is m times 2^e, without limits.
type number struct {
	m *big.Int
	e int
}

func exact(neg bool, m []uint64, e int) number {
	z := new(big.Int)
	for _, x := range slices.Backward(m) {
		z.Lsh(z, 64).Or(z, new(big.Int).SetUint64(x))
	}
	if neg {
		z.Neg(z)
	}
	return number{z, e}
}

func value(d api.Dyad) number {
	return exact(d.Neg, d.M, d.E)
}

// level are the M of a and b over one E, and that E.
func level(a, b number) (*big.Int, *big.Int, int) {
	e := min(a.e, b.e)
	return new(big.Int).Lsh(a.m, uint(a.e-e)), new(big.Int).Lsh(b.m, uint(b.e-e)), e
}

// expected is what a call must answer, if its value is x.
func expected(x number) (api.Dyad, int) {
	if x.m.Sign() == 0 {
		return api.Dyad{}, api.OK
	}
	size := new(big.Int).Abs(x.m)
	low := size.TrailingZeroBits()
	size.Rsh(size, low)
	e := x.e + int(low)
	switch {
	case size.BitLen() > maxBits:
		return api.Dyad{}, api.ErrLimb
	case e < -maxExp || e > maxExp:
		return api.Dyad{}, api.ErrExp
	}
	d := api.Dyad{Neg: x.m.Sign() < 0, E: e}
	for _, w := range size.Bits() {
		d.M = append(d.M, uint64(w))
	}
	return d, api.OK
}

// alike tells whether two Dyads have the same parts, without asking the package.
func alike(a, b api.Dyad) bool {
	return a.Neg == b.Neg && a.E == b.E && slices.Equal(a.M, b.M)
}

// check holds an answer against the value that it must have.
func check(t *testing.T, call string, got api.Dyad, code int, want number) {
	t.Helper()
	d, c := expected(want)
	if code != c || !alike(got, d) {
		t.Fatalf("%s: %v, %d; want %v, %d", call, got, code, d, c)
	}
}

// fails holds an answer against an error.
func fails(t *testing.T, call string, got api.Dyad, code, want int) {
	t.Helper()
	if code != want || !alike(got, api.Dyad{}) {
		t.Errorf("%s: %v, %d; want error %d beside nought", call, got, code, want)
	}
}

// samples are Dyads of all kinds that matter, of both signs.
func samples() []api.Dyad {
	all := []api.Dyad{{}, {M: []uint64{}}}
	for _, m := range [][]uint64{{1}, {3}, {full}, ones(65), ones(127), ones(128), apart(64), ones(maxBits / 2), ones(maxBits - 1), ones(maxBits), apart(maxBits - 1)} {
		for _, e := range []int{0, 1, -1, 63, -64, maxBits - 1, maxBits, -maxBits} {
			all = append(all, api.Dyad{M: m, E: e}, api.Dyad{Neg: true, M: m, E: e})
		}
	}
	return all
}

// far are Dyads whose E are about the ends of its range.
func far() []api.Dyad {
	var all []api.Dyad
	for _, m := range [][]uint64{{1}, {5}, ones(maxBits)} {
		for _, e := range []int{-maxExp, 1 - maxExp, maxBits - maxExp, 0, maxExp - maxBits, maxExp - 1, maxExp} {
			all = append(all, api.Dyad{M: m, E: e}, api.Dyad{Neg: true, M: m, E: e})
		}
	}
	return all
}

// maker makes the same numbers at each run.
func maker(seed uint64) *rand.Rand {
	return rand.New(rand.NewPCG(seed, 0))
}

// made is one of up to n limbs, in which limbs near a bound are frequent.
func made(r *rand.Rand, n, e int) api.Dyad {
	m := make([]uint64, 1+r.IntN(n))
	for i := range m {
		switch r.IntN(4) {
		case 0:
			m[i] = full
		case 1:
			m[i] = 1 << r.IntN(64)
		case 2:
			m[i] = r.Uint64()
		}
	}
	m[0] |= 1
	m[len(m)-1] |= 1 << r.IntN(64)
	return api.Dyad{Neg: r.IntN(2) == 0, M: m, E: r.IntN(2*e+1) - e}
}

// pairs hands over pairs of samples, of far ones and of Dyads made for it.
func pairs(try func(a, b api.Dyad)) {
	for _, row := range [][]api.Dyad{samples(), far()} {
		for _, a := range row {
			for _, b := range row {
				try(a, b)
			}
		}
	}
	r := maker(1)
	for range 20000 {
		try(made(r, 4, 200), made(r, 4, 200))
	}
	for range 2000 {
		try(made(r, api.MaxLimbs, 100), made(r, api.MaxLimbs, 100))
	}
}

func TestMay(t *testing.T) {
	for _, row := range [][]api.Dyad{samples(), far()} {
		for _, d := range row {
			if !dyad.May(d) {
				t.Errorf("May(%v) is false", d)
			}
		}
	}
	for _, d := range bad {
		if dyad.May(d) {
			t.Errorf("May(%v) is true", d)
		}
	}
}

func TestNorm(t *testing.T) {
	r := maker(2)
	for range 20000 {
		// Noughts below, as limbs and as bits.
		n := r.IntN(70)
		m := append(make([]uint64, r.IntN(3)), made(r, 3, 0).M...)
		z := exact(r.IntN(2) == 0, m, r.IntN(200)-100)
		d, code := dyad.Norm(z.m.Sign() < 0, m, z.e)
		check(t, "Norm", d, code, z)
		m = expectedLimbs(new(big.Int).Lsh(new(big.Int).Abs(z.m), uint(n)))
		up, code := dyad.Norm(d.Neg, m, z.e-n)
		check(t, "Norm of the same", up, code, z)
	}
	d, code := dyad.Norm(true, []uint64{0, 4}, -66)
	if code != api.OK || !alike(d, api.Dyad{Neg: true, M: []uint64{1}}) {
		t.Error("-1:", d, code)
	}
}

// expectedLimbs are the limbs of z.
func expectedLimbs(z *big.Int) []uint64 {
	var m []uint64
	for _, w := range z.Bits() {
		m = append(m, uint64(w))
	}
	return m
}

// TestNormExp: E counts as it stands behind the last bit, and e may be any number.
func TestNormExp(t *testing.T) {
	high := make([]uint64, api.MaxLimbs)
	high[api.MaxLimbs-1] = 1 << 63 // 2^4095: more noughts below than this no m has
	for _, x := range []struct {
		m    []uint64
		e    int
		want api.Dyad
		code int
	}{
		{[]uint64{1}, maxExp, api.Dyad{M: []uint64{1}, E: maxExp}, api.OK},
		{[]uint64{1}, maxExp + 1, api.Dyad{}, api.ErrExp},
		{[]uint64{2}, maxExp, api.Dyad{}, api.ErrExp},
		{[]uint64{2}, maxExp - 1, api.Dyad{M: []uint64{1}, E: maxExp}, api.OK},
		{[]uint64{1}, -maxExp, api.Dyad{M: []uint64{1}, E: -maxExp}, api.OK},
		{[]uint64{1}, -maxExp - 1, api.Dyad{}, api.ErrExp},
		{[]uint64{2}, -maxExp - 1, api.Dyad{M: []uint64{1}, E: -maxExp}, api.OK},
		{[]uint64{0, 4}, -maxExp - 66, api.Dyad{M: []uint64{1}, E: -maxExp}, api.OK},
		{[]uint64{0, 4}, -maxExp - 67, api.Dyad{}, api.ErrExp},
		{high, maxExp - (maxBits - 1), api.Dyad{M: []uint64{1}, E: maxExp}, api.OK},
		{high, maxExp - (maxBits - 2), api.Dyad{}, api.ErrExp},
		{high, math.MaxInt, api.Dyad{}, api.ErrExp},
		{high, math.MaxInt - (maxBits - 1), api.Dyad{}, api.ErrExp},
		{high, math.MinInt, api.Dyad{}, api.ErrExp},
		{[]uint64{1}, math.MaxInt, api.Dyad{}, api.ErrExp},
		{[]uint64{1}, math.MinInt, api.Dyad{}, api.ErrExp},
		{nil, math.MaxInt, api.Dyad{}, api.OK},
		{[]uint64{}, math.MinInt, api.Dyad{}, api.OK},
		{[]uint64{0}, 0, api.Dyad{}, api.ErrArg},
		{[]uint64{1, 0}, 0, api.Dyad{}, api.ErrArg},
		{ones(maxBits + 1), 0, api.Dyad{}, api.ErrArg},
		{[]uint64{1, 0}, math.MaxInt, api.Dyad{}, api.ErrArg},
		{ones(maxBits + 1), math.MinInt, api.Dyad{}, api.ErrArg},
	} {
		for _, neg := range []bool{false, true} {
			want := x.want
			want.Neg = neg && len(want.M) > 0
			if d, code := dyad.Norm(neg, x.m, x.e); code != x.code || !alike(d, want) {
				t.Errorf("Norm(%v, %v, %d): %v, %d; want %v, %d", neg, x.m, x.e, d, code, want, x.code)
			}
		}
	}
}

func TestOf(t *testing.T) {
	for _, n := range []int64{0, 1, -1, 2, -2, 3, 6, -12, 1 << 40, -1 << 40, math.MaxInt64, -math.MaxInt64, math.MinInt64, math.MinInt64 + 2} {
		for _, e := range []int{0, 1, -1, 500, -maxExp, -maxExp - 1, -maxExp - 2, -maxExp - 63, -maxExp - 64, maxExp, maxExp - 1, maxExp - 63, maxExp - 62, maxExp + 1} {
			d, code := dyad.Of(n, e)
			check(t, "Of", d, code, number{big.NewInt(n), e})
		}
		for _, e := range []int{math.MaxInt, math.MinInt} {
			d, code := dyad.Of(n, e)
			if n == 0 {
				check(t, "Of 0", d, code, number{big.NewInt(0), 0})
			} else {
				fails(t, "Of", d, code, api.ErrExp)
			}
		}
	}
	if d, code := dyad.Of(6, 0); code != api.OK || !alike(d, api.Dyad{M: []uint64{3}, E: 1}) {
		t.Error("the document's example:", d, code)
	}
}

func TestSignAndNeg(t *testing.T) {
	for _, row := range [][]api.Dyad{samples(), far()} {
		for _, d := range row {
			z := value(d)
			if got := dyad.Sign(d); got != z.m.Sign() {
				t.Fatalf("Sign(%v): %d", d, got)
			}
			check(t, "Neg", dyad.Neg(d), api.OK, number{z.m.Neg(z.m), z.e})
			if back := dyad.Neg(dyad.Neg(d)); !alike(back, d) {
				t.Fatalf("Neg twice of %v: %v", d, back)
			}
		}
	}
	for _, d := range bad {
		if dyad.Sign(d) != 0 || !alike(dyad.Neg(d), d) {
			t.Errorf("of %v: Sign %d, Neg %v", d, dyad.Sign(d), dyad.Neg(d))
		}
	}
}

func TestCmp(t *testing.T) {
	pairs(func(a, b api.Dyad) {
		x, y, _ := level(value(a), value(b))
		if got, want := dyad.Cmp(a, b), x.Cmp(y); got != want {
			t.Fatalf("Cmp(%v, %v): %d, want %d", a, b, got, want)
		}
	})
	// Just not the same: by the lowest bit only, with the same top.
	for _, x := range [][2]api.Dyad{
		{is(false, ones(maxBits), 0), of(1, maxBits)},
		{of(1, maxBits-1), is(false, apart(maxBits-1), 0)},
		{is(false, ones(maxBits), -maxExp), of(1, maxBits-maxExp)},
		{of(1, -maxExp), of(1, maxExp)},
		{of(-1, maxExp), of(1, -maxExp)},
		{of(-1, maxExp), of(-1, -maxExp)},
		{{}, of(1, -maxExp)},
		{of(-1, -maxExp), {M: []uint64{}}},
	} {
		if dyad.Cmp(x[0], x[1]) != -1 || dyad.Cmp(x[1], x[0]) != 1 {
			t.Errorf("Cmp of %v and %v", x[0], x[1])
		}
	}
	for _, d := range bad {
		for _, o := range append([]api.Dyad{{}, of(1, 0), of(-7, 3)}, bad...) {
			if dyad.Cmp(d, o) != 0 || dyad.Cmp(o, d) != 0 {
				t.Errorf("Cmp of what may not be: %v, %v", d, o)
			}
		}
	}
}

func TestAddAndSub(t *testing.T) {
	pairs(func(a, b api.Dyad) {
		x, y, e := level(value(a), value(b))
		s, code := dyad.Add(a, b)
		check(t, "Add", s, code, number{new(big.Int).Add(x, y), e})
		d, code := dyad.Sub(a, b)
		check(t, "Sub", d, code, number{new(big.Int).Sub(x, y), e})
	})
}

// TestAddLimbs: an answer has as many limbs as may be, or one bit more; what is reckoned with in between does not count.
func TestAddLimbs(t *testing.T) {
	most := is(false, ones(maxBits), 0)
	for _, x := range []struct {
		a, b api.Dyad
		want api.Dyad
		code int
	}{
		{most, most, is(false, ones(maxBits), 1), api.OK},
		{most, of(1, 0), of(1, maxBits), api.OK},
		{most, of(2, 0), api.Dyad{}, api.ErrLimb},
		{most, of(1, -1), api.Dyad{}, api.ErrLimb},
		{most, of(-1, -1), api.Dyad{}, api.ErrLimb},
		{of(1, maxBits), of(-1, 0), most, api.OK},
		{of(-1, 0), of(1, maxBits), most, api.OK},
		{of(1, maxBits), of(1, 0), api.Dyad{}, api.ErrLimb},
		{of(1, maxBits+1), of(-1, 0), api.Dyad{}, api.ErrLimb},
		{of(1, maxBits-1), of(1, 0), is(false, apart(maxBits-1), 0), api.OK},
		{of(1, maxBits+1), is(true, ones(maxBits), 0), api.Dyad{}, api.ErrLimb},
		{is(false, apart(maxBits-1), 1), is(true, ones(maxBits), 0), of(3, 0), api.OK},
		{is(false, ones(maxBits), 1), is(true, ones(maxBits), 0), most, api.OK},
		{is(false, ones(maxBits), 1), of(-1, 0), api.Dyad{}, api.ErrLimb},
		{is(false, ones(maxBits), 2), is(true, ones(maxBits), 0), api.Dyad{}, api.ErrLimb},
		{of(1, maxExp), of(1, -maxExp), api.Dyad{}, api.ErrLimb},
		{of(1, maxExp), of(-1, -maxExp), api.Dyad{}, api.ErrLimb},
	} {
		for _, turn := range []func(api.Dyad) api.Dyad{func(d api.Dyad) api.Dyad { return d }, dyad.Neg} {
			if s, code := dyad.Add(turn(x.a), turn(x.b)); code != x.code || !alike(s, turn(x.want)) {
				t.Errorf("Add(%v, %v): %v, %d", turn(x.a), turn(x.b), s, code)
			}
			if s, code := dyad.Sub(turn(x.b), turn(dyad.Neg(x.a))); code != x.code || !alike(s, turn(x.want)) {
				t.Errorf("Sub(%v, -%v): %v, %d", turn(x.b), turn(x.a), s, code)
			}
		}
	}
}

// TestAddExp: sums of the greatest E, whose E rises.
func TestAddExp(t *testing.T) {
	top, low := of(1, maxExp), of(1, -maxExp)
	s, code := dyad.Add(top, top)
	fails(t, "twice the top", s, code, api.ErrExp)
	s, code = dyad.Sub(of(-3, maxExp), of(7, maxExp))
	fails(t, "-10 at the top", s, code, api.ErrExp)
	s, code = dyad.Sub(of(7, maxExp), of(3, maxExp))
	fails(t, "4 at the top", s, code, api.ErrExp)
	if s, code = dyad.Sub(top, top); code != api.OK || !alike(s, api.Dyad{}) {
		t.Error("the top less itself:", s, code)
	}
	if s, code = dyad.Add(top, of(-1, maxExp-1)); code != api.OK || !alike(s, of(1, maxExp-1)) {
		t.Error("half of the top:", s, code)
	}
	if s, code = dyad.Add(top, of(1, maxExp-1)); code != api.OK || !alike(s, of(3, maxExp-1)) {
		t.Error("the top and half of it:", s, code)
	}
	if s, code = dyad.Add(low, low); code != api.OK || !alike(s, of(1, 1-maxExp)) {
		t.Error("twice the lowest:", s, code)
	}
	for _, d := range []api.Dyad{top, low, is(true, ones(maxBits), maxExp)} {
		if s, code = dyad.Add(d, api.Dyad{}); code != api.OK || !alike(s, d) {
			t.Error("and nought:", s, code)
		}
		if s, code = dyad.Sub(api.Dyad{M: []uint64{}}, d); code != api.OK || !alike(s, dyad.Neg(d)) {
			t.Error("nought less:", s, code)
		}
	}
}

func TestMul(t *testing.T) {
	pairs(func(a, b api.Dyad) {
		x, y := value(a), value(b)
		m, code := dyad.Mul(a, b)
		check(t, "Mul", m, code, number{new(big.Int).Mul(x.m, y.m), x.e + y.e})
	})
	half, quarter := ones(maxBits/2), ones(maxBits/4)
	for _, x := range []struct {
		call       string
		a, b, want api.Dyad
		code       int
	}{
		{"64 limbs", is(false, half, 7), is(true, half, -7), is(true, limbsOf(half, half), 0), api.OK},
		{"65 limbs", is(false, half, 7), is(true, apart(maxBits/2), -7), is(true, ones(maxBits), 0), api.OK},
		{"a bit too many", is(false, half, 7), is(true, ones(maxBits/2+1), -7), api.Dyad{}, api.ErrLimb},
		{"E too great", of(3, maxExp), of(5, 1), api.Dyad{}, api.ErrExp},
		{"E too low", of(3, -maxExp), of(-5, -1), api.Dyad{}, api.ErrExp},
		{"E of twice the range", of(1, maxExp), of(1, maxExp), api.Dyad{}, api.ErrExp},
		{"the greatest E", of(3, maxExp-4), of(5, 4), of(15, maxExp), api.OK},
		{"the lowest E", of(3, -maxExp+4), of(5, -4), of(15, -maxExp), api.OK},
		{"both wrong", is(false, ones(maxBits), maxExp), of(3, maxExp), api.Dyad{}, api.ErrLimb},
		{"both wrong, below", is(false, ones(maxBits), -maxExp), of(3, -1), api.Dyad{}, api.ErrLimb},
		{"by nought", is(false, quarter, maxExp), api.Dyad{}, api.Dyad{}, api.OK},
	} {
		for _, y := range [][2]api.Dyad{{x.a, x.b}, {x.b, x.a}} {
			if m, code := dyad.Mul(y[0], y[1]); code != x.code || !alike(m, x.want) {
				t.Errorf("%s: %v, %d", x.call, m, code)
			}
		}
	}
}

// limbsOf are the limbs of a times b.
func limbsOf(a, b []uint64) []uint64 {
	return expectedLimbs(new(big.Int).Mul(exact(false, a, 0).m, exact(false, b, 0).m))
}

func TestShift(t *testing.T) {
	for _, row := range [][]api.Dyad{samples(), far()} {
		for _, d := range row {
			for _, n := range []int{0, 1, -1, 64, -4096, maxExp, -maxExp, maxExp - d.E, maxExp - d.E + 1, -maxExp - d.E, -maxExp - d.E - 1} {
				z := value(d)
				s, code := dyad.Shift(d, n)
				check(t, "Shift", s, code, number{z.m, z.e + n})
			}
			for _, n := range []int{math.MaxInt, math.MinInt, math.MaxInt - maxExp, math.MinInt + maxExp} {
				s, code := dyad.Shift(d, n)
				if len(d.M) > 0 {
					fails(t, "Shift", s, code, api.ErrExp)
				} else if code != api.OK || !alike(s, api.Dyad{}) {
					t.Errorf("Shift(0, %d): %v, %d", n, s, code)
				}
			}
		}
	}
}

func TestSame(t *testing.T) {
	all := slices.Concat(samples(), far(), bad)
	for _, a := range all {
		for _, b := range all {
			if dyad.Same(a, b) != alike(a, b) {
				t.Fatalf("Same(%v, %v): %v", a, b, dyad.Same(a, b))
			}
		}
	}
	if !dyad.Same(api.Dyad{}, api.Dyad{M: []uint64{}}) {
		t.Error("M of nil and of none")
	}
	d := api.Dyad{M: []uint64{3, 5}, E: 7}
	for _, o := range []api.Dyad{{Neg: true, M: []uint64{3, 5}, E: 7}, {M: []uint64{3, 5}, E: 6}, {M: []uint64{3, 7}, E: 7}, {M: []uint64{3}, E: 7}, {M: []uint64{3, 5, 1}, E: 7}, {E: 7}} {
		if dyad.Same(d, o) || dyad.Same(o, d) {
			t.Errorf("%v and %v are the same", d, o)
		}
	}
}

// TestWrong hands over what may not be, beside what may, and beside other things that are wrong.
func TestWrong(t *testing.T) {
	others := append([]api.Dyad{{}, of(1, 0), of(-3, maxExp), is(true, ones(maxBits), -maxExp)}, bad...)
	for _, d := range bad {
		for _, o := range others {
			for _, x := range [][2]api.Dyad{{d, o}, {o, d}} {
				s, code := dyad.Add(x[0], x[1])
				fails(t, "Add", s, code, api.ErrArg)
				s, code = dyad.Sub(x[0], x[1])
				fails(t, "Sub", s, code, api.ErrArg)
				s, code = dyad.Mul(x[0], x[1])
				fails(t, "Mul", s, code, api.ErrArg)
			}
		}
		for _, n := range []int{0, 1, -1, maxExp, math.MaxInt, math.MinInt} {
			s, code := dyad.Shift(d, n)
			fails(t, "Shift", s, code, api.ErrArg)
		}
	}
}

// calls are all calls that answer a Dyad, as one shape.
func calls() map[string]func(a, b api.Dyad) (api.Dyad, int) {
	return map[string]func(a, b api.Dyad) (api.Dyad, int){
		"Norm":  func(a, b api.Dyad) (api.Dyad, int) { return dyad.Norm(a.Neg, a.M, b.E) },
		"Neg":   func(a, _ api.Dyad) (api.Dyad, int) { return dyad.Neg(a), api.OK },
		"Add":   dyad.Add,
		"Sub":   dyad.Sub,
		"Mul":   dyad.Mul,
		"Shift": func(a, b api.Dyad) (api.Dyad, int) { return dyad.Shift(a, b.E) },
	}
}

// TestMemory: what is handed in is not changed, and what is answered is the caller's own.
func TestMemory(t *testing.T) {
	all := []api.Dyad{{}, of(1, 0), of(-1, 0), of(7, -3), of(-9, 70), is(false, ones(200), 3), is(true, apart(130), -64), {M: []uint64{4}}, {M: []uint64{1, 0}}, {Neg: true}}
	for name, call := range calls() {
		for _, a := range all {
			for _, b := range all {
				want, _ := call(a, b)
				x, y := withRoom(a), withRoom(b)
				got, _ := call(x, y)
				if changed(x, a) || changed(y, b) {
					t.Fatalf("%s changed %v, %v to %v, %v", name, a, b, x, y)
				}
				spoil(x.M)
				spoil(y.M)
				if !alike(got, want) {
					t.Fatalf("%s of %v, %v: the answer shares memory", name, a, b)
				}
			}
		}
	}
}

// withRoom is d, with room behind its limbs that an append would write to.
func withRoom(d api.Dyad) api.Dyad {
	d.M = append(make([]uint64, 0, 8), d.M...)
	return d
}

// changed tells whether what came of withRoom(d) is something else by now.
func changed(got, d api.Dyad) bool {
	return !alike(got, d) || !slices.Equal(got.M[:cap(got.M)], withRoom(d).M[:8])
}

// spoil overwrites m and the room behind it.
func spoil(m []uint64) {
	m = m[:cap(m)]
	for i := range m {
		m[i] = 0xbad
	}
}

// TestWild: of any arguments whatever no call panics; each answers what may be, and nought beside an error.
func TestWild(t *testing.T) {
	r := maker(3)
	edges := []int{0, 1, -1, 62, -64, maxExp, -maxExp, maxExp + 1, -maxExp - 1, maxBits, -maxBits, math.MaxInt, math.MinInt}
	wild := func() api.Dyad {
		d := made(r, 1+r.IntN(70), 5000)
		switch r.IntN(8) {
		case 0:
			d.M[0] &^= 1
		case 1:
			d.M[len(d.M)-1] = 0
		case 2:
			d.M = nil
		}
		if r.IntN(2) == 0 {
			d.E = edges[r.IntN(len(edges))]
		}
		return d
	}
	for range 20000 {
		a, b := wild(), wild()
		for name, call := range calls() {
			d, code := call(a, b)
			if name == "Neg" {
				continue
			}
			wrong := name != "Norm" && !dyad.May(a) || name != "Norm" && name != "Shift" && !dyad.May(b)
			if wrong && code != api.ErrArg || !dyad.May(d) || code != api.OK && !alike(d, api.Dyad{}) {
				t.Fatalf("%s of %v, %v: %v, %d", name, a, b, d, code)
			}
		}
		dyad.Cmp(a, b)
		dyad.Sign(a)
		dyad.Same(a, b)
	}
}

// TestExact: of 2.3, exact numbers: sums and products keep the laws to the last bit, and what was added is taken away again.
func TestExact(t *testing.T) {
	r := maker(4)
	get := func(d api.Dyad, code int) api.Dyad {
		t.Helper()
		if code != api.OK {
			t.Fatal("error", code)
		}
		return d
	}
	for range 5000 {
		a, b, c := made(r, 6, 300), made(r, 6, 300), made(r, 6, 300)
		left := get(dyad.Mul(a, get(dyad.Add(b, c))))
		right := get(dyad.Add(get(dyad.Mul(a, b)), get(dyad.Mul(a, c))))
		if !dyad.Same(left, right) {
			t.Fatalf("a(b+c) of %v, %v, %v: %v, %v", a, b, c, left, right)
		}
		if back := get(dyad.Sub(get(dyad.Add(a, b)), b)); !dyad.Same(back, a) {
			t.Fatalf("%v and %v, less that: %v", a, b, back)
		}
		if dyad.Cmp(a, b) != dyad.Sign(get(dyad.Sub(a, b))) {
			t.Fatalf("Cmp and Sub of %v, %v", a, b)
		}
	}
	// 1/2 and 1/4 and so on, up to the last bit that may be, and back.
	s := api.Dyad{}
	for n := 1; n <= maxBits; n++ {
		s = get(dyad.Add(s, of(1, -n)))
	}
	if !dyad.Same(s, is(false, ones(maxBits), -maxBits)) {
		t.Error("not 1 - 2^-4096:", s)
	}
	for n := 1; n <= maxBits; n++ {
		s = get(dyad.Sub(s, of(1, -n)))
	}
	if !dyad.Same(s, api.Dyad{}) {
		t.Error("there and back:", s)
	}
}
