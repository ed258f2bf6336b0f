package dec_test

import (
	"math"
	"math/big"
	"math/rand/v2"
	"regexp"
	"slices"
	"strconv"
	"strings"
	"testing"

	"sluiceway/api"
	"sluiceway/dec"
	"sluiceway/dyad"
	"sluiceway/round"
)

const (
	maxExp    = api.MaxExp
	maxBits   = 64 * api.MaxLimbs
	maxBytes  = 60
	maxDigits = 60
	maxShift  = 2000
)

var one = big.NewInt(1)

// badPrecs are numbers of bits that may not be.
var badPrecs = []int{0, -1, api.MaxPrec + 1, 4096, math.MaxInt, math.MinInt}

// precs are numbers of bits that may be.
var precs = []int{1, 2, 3, 8, 53, 63, 64, 65, 128, 200, 513, 523, api.MaxPrec - 1, api.MaxPrec}

// badDyads are Dyads that may not be, each for one reason.
var badDyads = []api.Dyad{
	{Neg: true},
	{E: 1},
	{E: maxShift + 1},
	{M: []uint64{0}},
	{M: []uint64{6}},
	{M: []uint64{6}, E: -maxShift - 1},
	{M: []uint64{0, 1}, Neg: true},
	{M: []uint64{1, 0}},
	{M: slices.Repeat([]uint64{1}, api.MaxLimbs+1)},
	{M: []uint64{1}, E: maxExp + 1},
	{M: []uint64{1}, E: -maxExp - 1, Neg: true},
	{M: []uint64{3}, E: math.MinInt},
	{M: []uint64{3}, E: math.MaxInt},
}

// is is the Dyad m times 2^e.
func is(m *big.Int, e int) api.Dyad {
	if m.Sign() == 0 {
		return api.Dyad{}
	}
	odd := new(big.Int).Abs(m)
	low := odd.TrailingZeroBits()
	d := api.Dyad{Neg: m.Sign() < 0, E: e + int(low)}
	for _, w := range odd.Rsh(odd, low).Bits() {
		d.M = append(d.M, uint64(w))
	}
	return d
}

// of is n times 2^e.
func of(n int64, e int) api.Dyad {
	return is(big.NewInt(n), e)
}

// power is 2^n and more.
func power(n int, more int64) *big.Int {
	z := new(big.Int).Lsh(one, uint(n))
	return z.Add(z, big.NewInt(more))
}

// tens is 10^n.
func tens(n int) *big.Int {
	return new(big.Int).Exp(big.NewInt(10), big.NewInt(int64(n)), nil)
}

// value is d as a fraction.
func value(d api.Dyad) *big.Rat {
	z := new(big.Int)
	for _, x := range slices.Backward(d.M) {
		z.Lsh(z, 64).Or(z, new(big.Int).SetUint64(x))
	}
	if d.Neg {
		z.Neg(z)
	}
	scale := new(big.Int).Lsh(one, uint(max(d.E, -d.E)))
	if d.E < 0 {
		return new(big.Rat).SetFrac(z, scale)
	}
	return new(big.Rat).SetInt(z.Mul(z, scale))
}

// meant is the fraction that a text stands for.
func meant(t *testing.T, s string) *big.Rat {
	t.Helper()
	v, ok := new(big.Rat).SetString(s)
	if !ok {
		t.Fatalf("math/big does not read %q", s)
	}
	return v
}

// limit is v, which is not below 0, rounded to p bits by asking floors alone.
func limit(v *big.Rat, p int, up bool) api.Dyad {
	if v.Sign() == 0 {
		return api.Dyad{}
	}
	a, b := v.Num(), v.Denom()
	j := a.BitLen() - b.BitLen() - p
	over := func(j int) (*big.Int, *big.Int) {
		return new(big.Int).Lsh(a, uint(max(0, -j))), new(big.Int).Lsh(b, uint(max(0, j)))
	}
	// 2^j is what the last of p bits counts.
	if x, y := over(j + p); x.Cmp(y) >= 0 {
		j++
	}
	x, y := over(j)
	q, rest := x.QuoRem(x, y, new(big.Int))
	if up && rest.Sign() != 0 {
		q.Add(q, one)
	}
	return is(q, j)
}

// alike tells whether two Dyads have the same parts, without asking the program.
func alike(a, b api.Dyad) bool {
	return a.Neg == b.Neg && a.E == b.E && slices.Equal(a.M, b.M)
}

// nothing tells whether a is the zero interval.
func nothing(a api.Ival) bool {
	return alike(a.Lo, api.Dyad{}) && alike(a.Hi, api.Dyad{})
}

// tryLit holds Lit of a literal against what it must be.
func tryLit(t *testing.T, s string, p int) {
	t.Helper()
	a, code := dec.Lit(s, p)
	v := meant(t, s)
	if lo, hi := limit(v, p, false), limit(v, p, true); code != api.OK || !alike(a.Lo, lo) || !alike(a.Hi, hi) {
		t.Fatalf("Lit(%q, %d): %v, %d; want %v, %v", s, p, a, code, lo, hi)
	}
}

// tryExact holds Exact of a literal against what it must be.
func tryExact(t *testing.T, s string) {
	t.Helper()
	d, code := dec.Exact(s)
	v := meant(t, s)
	if twos := v.Denom().BitLen() - 1; int(v.Denom().TrailingZeroBits()) == twos {
		if want := is(v.Num(), -twos); code != api.OK || !alike(d, want) {
			t.Fatalf("Exact(%q): %v, %d; want %v", s, d, code, want)
		}
	} else if code != api.ErrText || !alike(d, api.Dyad{}) {
		t.Fatalf("Exact(%q): %v, %d; want ErrText", s, d, code)
	}
}

// isLiteral holds all calls that take a literal against s being one.
func isLiteral(t *testing.T, s string) {
	t.Helper()
	if !dec.Form(s) {
		t.Fatalf("Form(%q) is false", s)
	}
	tryExact(t, s)
	for _, p := range []int{1, 53} {
		tryLit(t, s, p)
	}
	for _, p := range badPrecs {
		if a, code := dec.Lit(s, p); code != api.ErrArg || !nothing(a) {
			t.Fatalf("Lit(%q, %d): %v, %d; want ErrArg", s, p, a, code)
		}
	}
}

// isNone holds all calls that take a literal against s being none.
func isNone(t *testing.T, s string) {
	t.Helper()
	if dec.Form(s) {
		t.Fatalf("Form(%q) is true", s)
	}
	if d, code := dec.Exact(s); code != api.ErrText || !alike(d, api.Dyad{}) {
		t.Fatalf("Exact(%q): %v, %d; want ErrText", s, d, code)
	}
	// Told ahead of a p that may not be.
	for _, p := range append([]int{1, 53, api.MaxPrec}, badPrecs...) {
		if a, code := dec.Lit(s, p); code != api.ErrText || !nothing(a) {
			t.Fatalf("Lit(%q, %d): %v, %d; want ErrText", s, p, a, code)
		}
	}
}

// maker makes the same numbers at each run.
func maker(seed uint64) *rand.Rand {
	return rand.New(rand.NewPCG(seed, 0))
}

// digits are n digits, with long rows of equal ones.
func digits(r *rand.Rand, n int) string {
	s := make([]byte, n)
	for i := range s {
		switch {
		case i > 0 && r.IntN(3) > 0:
			s[i] = s[i-1]
		default:
			s[i] = "0001255899"[r.IntN(10)]
		}
	}
	return string(s)
}

// literal is one of any shape.
func literal(r *rand.Rand) string {
	s := digits(r, 1+r.IntN(54))
	if n := 54 - len(s); n > 0 && r.IntN(2) == 0 {
		s += "." + digits(r, 1+r.IntN(n))
	}
	if r.IntN(2) == 0 {
		s += "e" + []string{"", "+", "-"}[r.IntN(3)] + strconv.Itoa(r.IntN(101))
	}
	return s
}

// made is a Dyad of up to n limbs, with long rows of equal bits.
func made(r *rand.Rand, n, e int) api.Dyad {
	m := new(big.Int)
	for range 1 + r.IntN(n) {
		m.Lsh(m, 64).Or(m, new(big.Int).SetUint64([]uint64{0, 1, math.MaxUint64, 1 << r.IntN(64), r.Uint64(), r.Uint64()}[r.IntN(6)]))
	}
	m.SetBit(m, 0, 1)
	if r.IntN(2) == 0 {
		m.Neg(m)
	}
	return is(m, r.IntN(2*e+1)-e)
}

func TestForm(t *testing.T) {
	zeros, nines := strings.Repeat("0", 100), strings.Repeat("9", 100)
	for _, s := range []string{
		"0", "9", "00", "12", "1.5", "007.50", "0.0", "1e0", "1e5", "1.5e-100", "2e+07", "1e100", "1e+100", "1e-100", "1e000", "1e-000", "1e+099", "0e100", "0.000e-100",
		nines[:60], zeros[:60], zeros[:59] + "1", "1." + nines[:58], nines[:58] + ".1", nines[:56] + "e100", "0." + zeros[:52] + "1e-100", nines[:55] + "e+100", nines[:58] + "e9",
	} {
		isLiteral(t, s)
	}
	for _, s := range []string{
		"", "-1", "+1", "-", "+", ".", "e", "e5", ".5", "1.", "1.e5", ".e5", "1e", "1e+", "1e-", "1e+-1", "1e--1", "1e++1", "1e101", "1e+101", "1e-101", "1e200", "1e999", "1e0100", "1e0000", "1e-0001", "1e1000", "1e1.5", "1e5e5", "1.5.5", "1..5", "1-1", "1+1",
		" 1", "1 ", "1\n", "\n1", "1\x00", "\x001", "1 e5", "1e 5", "1. 5", "1\t", "1,5", "1_0", "0x1", "0b1", "0o7", "1p3", "0x1p3", "1E5", "1d5", "1f", "1/2", "NaN", "nan", "Inf", "inf", "infinity", "x", "t",
		"١", "1١", "1.١", "1e١", "１", "1．5", "1e−5", "½", "Ⅷ", "1\xff", "\xff", "1\xc3", "1é",
		nines[:61], zeros[:61], "1." + nines[:59], nines[:59] + ".1", nines[:57] + "e100", nines[:56] + "e+100", "0." + zeros[:53] + "1e-100", nines[:59] + "e9", strings.Repeat("9", 1<<20), strings.Repeat("x", 1<<20), "1e" + strings.Repeat("0", 1<<20), "1e" + nines[:50], "1e18446744073709551617",
	} {
		isNone(t, s)
	}
}

// TestFormAll holds all short texts of some bytes against an expression of the form.
func TestFormAll(t *testing.T) {
	form := regexp.MustCompile(`\A[0-9]+(\.[0-9]+)?(e[+-]?([0-9]{1,2}|0[0-9]{2}|100))?\z`)
	const bytes = "019.e+-E /:"
	var try func(s string, n int)
	try = func(s string, n int) {
		if got := dec.Form(s); got != form.MatchString(s) {
			t.Fatalf("Form(%q) is %v", s, got)
		}
		for i := 0; i < len(bytes) && n > 0; i++ {
			try(s+bytes[i:i+1], n-1)
		}
	}
	try("", 5)
	for n := range 1000 {
		s := strconv.Itoa(n)
		for _, e := range []string{"e", "e+", "e-", "e0", "e-0", "e00"} {
			if got := dec.Form("1" + e + s); got != form.MatchString("1"+e+s) {
				t.Fatalf("Form(%q) is %v", "1"+e+s, got)
			}
		}
	}
	for b := range 256 {
		c := string([]byte{byte(b)})
		for _, s := range []string{c, "1" + c, c + "1", "1" + c + "1", "1.1" + c, "1e1" + c, "1e" + c + "1", "1." + c + "1"} {
			if got := dec.Form(s); got != form.MatchString(s) {
				t.Fatalf("Form(%q) is %v", s, got)
			}
		}
	}
}

func TestLit(t *testing.T) {
	nines := strings.Repeat("9", 60)
	for _, s := range []string{"0", "0.000", "0e-100", "0e100", "1", "1e0", "0.1", "2.5e1", "0.5", "0.75", "1e100", "1e-100", "5e-1", "0.3e1", nines, nines[:56] + "e100", "0." + nines[:54] + "e-99", "0." + strings.Repeat("0", 52) + "1e-100", "0." + strings.Repeat("0", 52) + "5e-100"} {
		for _, p := range precs {
			tryLit(t, s, p)
		}
	}
	for n := range 1000 {
		for p := range 12 {
			tryLit(t, strconv.Itoa(n), p+1)
			tryLit(t, strconv.Itoa(n)+"e-2", p+1)
			tryLit(t, "0."+strconv.Itoa(n), p+1)
		}
	}
	r := maker(1)
	for range 20000 {
		tryLit(t, literal(r), 1+r.IntN(300))
	}
	for range 1000 {
		tryLit(t, literal(r), 1+r.IntN(api.MaxPrec))
	}
}

// TestLitNear: literals just beside numbers of p bits, and these themselves.
func TestLitNear(t *testing.T) {
	for p := 1; p <= 185; p++ { // of at most 56 digits
		for more := int64(-3); more <= 3; more++ {
			if z := power(p, more); z.Sign() >= 0 {
				tryLit(t, z.String(), p)
				tryLit(t, z.String()+"e1", p)
				tryLit(t, z.String()+"e-3", p)
			}
		}
	}
	if a, code := dec.Lit("0.1", 4); code != api.OK || !alike(a.Lo, of(12, -7)) || !alike(a.Hi, of(13, -7)) {
		t.Error("0.1 with 4 bits:", a, code)
	}
}

func TestExact(t *testing.T) {
	for s, want := range map[string]api.Dyad{
		"0": {}, "0.000e-99": {}, "0e100": {}, "1": of(1, 0), "0.375": of(3, -3), "12.50": of(25, -1), "5e-1": of(1, -1), "3e2": of(75, 2), "007": of(7, 0), "1.25e-1": of(1, -3), "1000e-3": of(1, 0),
		"1." + strings.Repeat("0", 58): of(1, 0), "0.5" + strings.Repeat("0", 57): of(1, -1),
	} {
		if d, code := dec.Exact(s); code != api.OK || !alike(d, want) {
			t.Errorf("Exact(%q): %v, %d; want %v", s, d, code, want)
		}
	}
	for _, s := range []string{"0.1", "1e-1", "0.3", "0.2500001", "1.7", "1e-100", "0.124999", "5e-2", "3e-1", "0." + strings.Repeat("0", 57) + "1"} {
		if d, code := dec.Exact(s); code != api.ErrText || !alike(d, api.Dyad{}) {
			t.Errorf("Exact(%q): %v, %d; want ErrText", s, d, code)
		}
	}
	r := maker(2)
	for range 20000 {
		tryExact(t, literal(r))
	}
	// Of each power of two so many digits as it has, with one more or less at the end.
	for n := range 58 {
		five := new(big.Int).Exp(big.NewInt(5), big.NewInt(int64(n)), nil)
		for more := int64(-1); more <= 1; more++ {
			z := new(big.Int).Add(five, big.NewInt(more)).String()
			tryExact(t, z+"e-"+strconv.Itoa(n))
			tryExact(t, "0."+strings.Repeat("0", max(0, n-len(z)))+z)
			tryExact(t, z+"e"+strconv.Itoa(n))
		}
	}
}

// decimal is what Text must answer of a Dyad with the value v.
func decimal(v *big.Rat, n int, up bool) string {
	a := new(big.Int).Mul(v.Num(), tens(n))
	if up {
		a.Neg(a)
	}
	a.Div(a, v.Denom()) // Div rounds down, for what is below a fraction's line is above 0.
	if up {
		a.Neg(a)
	}
	s := new(big.Int).Abs(a).String()
	s = strings.Repeat("0", max(0, n+1-len(s))) + s
	if n > 0 {
		s = s[:len(s)-n] + "." + s[len(s)-n:]
	}
	if a.Sign() < 0 {
		s = "-" + s
	}
	return s
}

// tryText holds both Texts of d against what they must be.
func tryText(t *testing.T, d api.Dyad, n int) {
	t.Helper()
	v := value(d)
	for _, up := range []bool{false, true} {
		if s, code := dec.Text(d, n, up); code != api.OK || s != decimal(v, n, up) {
			t.Fatalf("Text(%v, %d, %v): %q, %d; want %q", d, n, up, s, code, decimal(v, n, up))
		}
	}
}

func TestText(t *testing.T) {
	for i, x := range []struct {
		d        api.Dyad
		digits   int
		down, up string
	}{
		{of(1, -3), 2, "0.12", "0.13"},
		{of(1, -3), 3, "0.125", "0.125"},
		{of(1, -3), 5, "0.12500", "0.12500"},
		{of(1, -3), 0, "0", "1"},
		{of(-1, -3), 2, "-0.13", "-0.12"},
		{of(-1, -3), 0, "-1", "0"},
		{of(-1, -10), 2, "-0.01", "0.00"},
		{of(-1, -maxShift), 60, "-0." + strings.Repeat("0", 59) + "1", "0." + strings.Repeat("0", 60)},
		{api.Dyad{}, 0, "0", "0"},
		{api.Dyad{}, 2, "0.00", "0.00"},
		{api.Dyad{M: []uint64{}}, 60, "0." + strings.Repeat("0", 60), "0." + strings.Repeat("0", 60)},
		{of(1, 0), 0, "1", "1"},
		{of(-1, 0), 1, "-1.0", "-1.0"},
		{of(5, 1), 0, "10", "10"},
		{of(19, -1), 0, "9", "10"},
		{of(-19, -1), 0, "-10", "-9"},
		{of(1999, -1), 0, "999", "1000"},
		{of(1023, -10), 2, "0.99", "1.00"},
		{of(-1023, -10), 2, "-1.00", "-0.99"},
		{of(1, 70), 1, "1180591620717411303424.0", "1180591620717411303424.0"},
		{of(math.MinInt64, 0), 0, "-9223372036854775808", "-9223372036854775808"},
	} {
		for _, up := range []bool{false, true} {
			want := x.down
			if up {
				want = x.up
			}
			if s, code := dec.Text(x.d, x.digits, up); code != api.OK || s != want {
				t.Errorf("%d: %v: %q, %d; want %q", i, up, s, code, want)
			}
		}
		tryText(t, x.d, x.digits)
	}
}

// TestTextMany holds Text against math/big: of small numbers, of all sizes, and about powers of ten, where digits are carried.
func TestTextMany(t *testing.T) {
	for n := int64(-300); n <= 300; n++ {
		for e := -9; e <= 3; e++ {
			for k := range 5 {
				tryText(t, of(n, e), k)
			}
		}
	}
	for n := range 1200 {
		for more := int64(-2); more <= 2; more++ {
			for _, e := range []int{-70, -64, -2, -1, 0, 1} {
				tryText(t, is(new(big.Int).Add(tens(n), big.NewInt(more)), e), n%(maxDigits+1))
			}
		}
	}
	r := maker(3)
	for range 20000 {
		tryText(t, made(r, 4, 300), r.IntN(maxDigits+1))
	}
	for range 500 {
		tryText(t, made(r, api.MaxLimbs, maxShift), r.IntN(maxDigits+1))
	}
}

// TestTextShift: E up to 2,000 either way, of each M that may be, and not one more.
func TestTextShift(t *testing.T) {
	for _, m := range []*big.Int{one, big.NewInt(-1), big.NewInt(7), power(64, -1), power(64, 1), power(maxBits, -1), power(maxBits-1, 1), new(big.Int).Neg(power(maxBits, -1))} {
		for _, n := range []int{0, 1, 19, 59, maxDigits} {
			for _, e := range []int{-maxShift, 1 - maxShift, maxShift - 1, maxShift} {
				tryText(t, is(m, e), n)
			}
			for _, e := range []int{-maxShift - 1, maxShift + 1, -maxExp, maxExp} {
				for _, up := range []bool{false, true} {
					if s, code := dec.Text(is(m, e), n, up); code != api.ErrLimb || s != "" {
						t.Fatalf("of %v times 2^%d: %q, %d; want ErrLimb", m, e, s, code)
					}
				}
			}
		}
	}
}

// TestTextWrong hands over what may not be, beside what may, and beside an E that is out of its range.
func TestTextWrong(t *testing.T) {
	good := []api.Dyad{{}, of(1, 0), of(-1, -3), of(3, maxShift), of(3, maxShift+1), of(-3, -maxExp)}
	wrong := func(d api.Dyad, n int) {
		t.Helper()
		for _, up := range []bool{false, true} {
			if s, code := dec.Text(d, n, up); code != api.ErrArg || s != "" {
				t.Errorf("Text(%v, %d, %v): %q, %d; want ErrArg", d, n, up, s, code)
			}
		}
	}
	for _, n := range []int{-1, maxDigits + 1, math.MinInt, math.MaxInt} {
		for _, d := range slices.Concat(good, badDyads) {
			wrong(d, n)
		}
	}
	for _, d := range badDyads {
		for _, n := range []int{0, 2, maxDigits} {
			wrong(d, n)
		}
	}
}

// TestMemory: what is handed in is not changed, and what is answered shares none of its memory.
func TestMemory(t *testing.T) {
	for _, d := range []api.Dyad{{}, of(1, 0), of(-9, -70), of(9, 70), is(power(200, -1), -3), is(power(128, 1), 64)} {
		x := d
		x.M = append(make([]uint64, 0, 8), d.M...)
		room := slices.Clone(x.M[:8])
		for _, up := range []bool{false, true} {
			for n := range 4 {
				dec.Text(x, n, up)
			}
		}
		if !alike(x, d) || !slices.Equal(x.M[:8], room) {
			t.Errorf("Text changed %v to %v", d, x)
		}
	}
	for _, s := range []string{"0", "1", "0.1", "3e20", strings.Repeat("9", 60)} {
		want, _ := dec.Lit(s, 300)
		a, _ := dec.Lit(s, 300)
		spoil(a.Lo.M)
		if !alike(a.Hi, want.Hi) {
			t.Errorf("Lit(%q): the ends share memory", s)
		}
		spoil(a.Hi.M)
		exact, _ := dec.Exact(s)
		spoil(exact.M)
		if again, _ := dec.Lit(s, 300); !alike(again.Lo, want.Lo) || !alike(again.Hi, want.Hi) {
			t.Errorf("Lit(%q): the answer is kept", s)
		}
	}
}

// spoil overwrites m and the room behind it.
func spoil(m []uint64) {
	m = m[:cap(m)]
	for i := range m {
		m[i] = 0xbad
	}
}

// TestWild: of any arguments whatever no call panics; each answers what may be, and nothing beside an error.
func TestWild(t *testing.T) {
	r := maker(4)
	for range 50000 {
		s := make([]byte, r.IntN(65))
		for i := range s {
			s[i] = "0123456789.e+-"[r.IntN(14)]
			if r.IntN(40) == 0 {
				s[i] = byte(r.IntN(256))
			}
		}
		switch form := dec.Form(string(s)); {
		case form:
			isLiteral(t, string(s))
		default:
			isNone(t, string(s))
		}
	}
	edges := []int{0, 1, -1, maxShift, -maxShift, maxShift + 1, -maxShift - 1, maxExp, -maxExp - 1, math.MaxInt, math.MinInt}
	for range 3000 {
		d, n := made(r, 1+r.IntN(70), maxShift), r.IntN(maxDigits+1)
		switch r.IntN(8) {
		case 0:
			d.M[0] &^= 1
		case 1:
			d.M[len(d.M)-1] = 0
		case 2:
			d.M = nil
		}
		if r.IntN(2) == 0 {
			d.E = edges[r.IntN(len(edges))]
		}
		if r.IntN(8) == 0 {
			n = edges[r.IntN(len(edges))]
		}
		want := api.OK
		switch {
		case !dyad.May(d) || n < 0 || n > maxDigits:
			want = api.ErrArg
		case d.E < -maxShift || d.E > maxShift:
			want = api.ErrLimb
		}
		if s, code := dec.Text(d, n, r.IntN(2) == 0); code != want || (s == "") != (want != api.OK) {
			t.Fatalf("Text(%v, %d): %q, %d; want %d", d, n, s, code, want)
		}
	}
}

// TestHolds: of 4.3, what is read is held: by ends of p bits, which come nearer with more of them; what is written holds, and is read as it was, if it has digits enough.
func TestHolds(t *testing.T) {
	r := maker(5)
	for range 5000 {
		s, p, n := literal(r), 1+r.IntN(300), r.IntN(maxDigits+1)
		v := meant(t, s)
		a, _ := dec.Lit(s, p)
		b, _ := dec.Lit(s, p+1)
		if value(a.Lo).Cmp(v) > 0 || value(a.Hi).Cmp(v) < 0 || round.Bits(a.Lo) > p || round.Bits(a.Hi) > p {
			t.Fatalf("Lit(%q, %d): %v", s, p, a)
		}
		if dyad.Cmp(a.Lo, b.Lo) > 0 || dyad.Cmp(a.Hi, b.Hi) < 0 {
			t.Fatalf("Lit(%q) with %d bits and one more: %v, %v", s, p, a, b)
		}
		if d, code := dec.Exact(s); alike(a.Lo, a.Hi) != (code == api.OK && round.Bits(d) <= p) {
			t.Fatalf("Lit(%q, %d): %v; Exact: %v, %d", s, p, a, d, code)
		}
		lo, _ := dec.Text(a.Lo, n, false)
		hi, _ := dec.Text(a.Hi, n, true)
		if meant(t, lo).Cmp(v) > 0 || meant(t, hi).Cmp(v) < 0 {
			t.Fatalf("%q is written as from %s to %s", s, lo, hi)
		}
	}
	for range 5000 {
		d := made(r, 1, 40)
		d.Neg = false
		s, _ := dec.Text(d, max(0, -d.E), r.IntN(2) == 0)
		if len(s) > maxBytes {
			continue
		}
		if back, code := dec.Exact(s); code != api.OK || !alike(back, d) {
			t.Fatalf("%v is written as %s and read as %v, %d", d, s, back, code)
		}
	}
}
