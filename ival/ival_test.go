package ival_test

import (
	"math"
	"math/big"
	"math/rand/v2"
	"slices"
	"testing"

	"sluiceway/api"
	"sluiceway/dyad"
	"sluiceway/ival"
)

const (
	maxExp  = api.MaxExp
	maxBits = 64 * api.MaxLimbs
)

// badDyads are Dyads that may not be, each for one reason.
var badDyads = []api.Dyad{
	{Neg: true},
	{E: 1},
	{M: []uint64{0}},
	{M: []uint64{6}},
	{M: []uint64{0, 1}, Neg: true},
	{M: []uint64{1, 0}},
	{M: slices.Repeat([]uint64{1}, api.MaxLimbs+1)},
	{M: []uint64{1}, E: maxExp + 1},
	{M: []uint64{1}, E: -maxExp - 1, Neg: true},
	{M: []uint64{3}, E: math.MinInt},
	{M: []uint64{3}, E: math.MaxInt},
}

// badPrecs are numbers of bits that may not be.
var badPrecs = []int{0, -1, api.MaxPrec + 1, math.MaxInt, math.MinInt}

// bad are intervals that may not be: for an end, or for their order.
func bad() []api.Ival {
	var all []api.Ival
	for _, d := range badDyads {
		all = append(all, api.Ival{Lo: d, Hi: d}, api.Ival{Lo: of(-9, 0), Hi: d}, api.Ival{Lo: d, Hi: of(9, 0)})
	}
	return append(all,
		api.Ival{Lo: of(3, 0), Hi: of(1, 0)},
		api.Ival{Lo: of(1, -maxExp)},
		api.Ival{Hi: of(-1, -maxExp)},
		api.Ival{Lo: of(1, maxExp), Hi: of(1, -maxExp)},
		api.Ival{Lo: of(1, maxBits), Hi: is(power(maxBits, -1), 0)},
		api.Ival{Lo: of(-1, 0), Hi: of(-1, 1)})
}

// number is m times 2^e, without limits.
type number struct {
	m *big.Int
	e int
}

func value(d api.Dyad) number {
	z := new(big.Int)
	for _, x := range slices.Backward(d.M) {
		z.Lsh(z, 64).Or(z, new(big.Int).SetUint64(x))
	}
	if d.Neg {
		z.Neg(z)
	}
	return number{z, d.E}
}

// level are the M of x and y over one E, and that E.
func level(x, y number) (*big.Int, *big.Int, int) {
	e := min(x.e, y.e)
	return new(big.Int).Lsh(x.m, uint(x.e-e)), new(big.Int).Lsh(y.m, uint(y.e-e)), e
}

// sum is x and y together.
func sum(x, y number) number {
	a, b, e := level(x, y)
	return number{a.Add(a, b), e}
}

// less is x without y.
func less(x, y number) number {
	return sum(x, number{new(big.Int).Neg(y.m), y.e})
}

// order is -1, 0 or 1, as a is less than b, the same or greater.
func order(a, b api.Dyad) int {
	x, y, _ := level(value(a), value(b))
	return x.Cmp(y)
}

// expected is what a call must answer, if its value is x.
func expected(x number) (api.Dyad, int) {
	if x.m.Sign() == 0 {
		return api.Dyad{}, api.OK
	}
	odd := new(big.Int).Abs(x.m)
	low := odd.TrailingZeroBits()
	d := api.Dyad{Neg: x.m.Sign() < 0, E: x.e + int(low)}
	odd.Rsh(odd, low)
	switch {
	case odd.BitLen() > maxBits:
		return api.Dyad{}, api.ErrLimb
	case d.E < -maxExp || d.E > maxExp:
		return api.Dyad{}, api.ErrExp
	}
	for _, w := range odd.Bits() {
		d.M = append(d.M, uint64(w))
	}
	return d, api.OK
}

// both is what a call must answer, if its ends are x and y: the Lo's error is told ahead of the Hi's.
func both(x, y number) (api.Ival, int) {
	lo, code := expected(x)
	if code != api.OK {
		return api.Ival{}, code
	}
	hi, code := expected(y)
	if code != api.OK {
		return api.Ival{}, code
	}
	return api.Ival{Lo: lo, Hi: hi}, api.OK
}

// is is the Dyad m times 2^e.
func is(m *big.Int, e int) api.Dyad {
	d, code := expected(number{m, e})
	if code != api.OK {
		panic("a test asks for what there is not")
	}
	return d
}

// of is n times 2^e.
func of(n int64, e int) api.Dyad {
	return is(big.NewInt(n), e)
}

// span is from a to b, both times 2^e.
func span(a, b int64, e int) api.Ival {
	return api.Ival{Lo: of(a, e), Hi: of(b, e)}
}

// power is 2^n and more.
func power(n int, more int64) *big.Int {
	z := new(big.Int).Lsh(big.NewInt(1), uint(n))
	return z.Add(z, big.NewInt(more))
}

// alike tells whether two Dyads have the same parts, without asking the program.
func alike(a, b api.Dyad) bool {
	return a.Neg == b.Neg && a.E == b.E && slices.Equal(a.M, b.M)
}

// equal tells whether two intervals have the same parts.
func equal(a, b api.Ival) bool {
	return alike(a.Lo, b.Lo) && alike(a.Hi, b.Hi)
}

// check holds an answer against what it must be.
func check(t *testing.T, call string, got api.Ival, code int, want api.Ival, c int) {
	t.Helper()
	if code != c || !equal(got, want) {
		t.Fatalf("%s: %v, %d; want %v, %d", call, got, code, want, c)
	}
}

// checkOne holds a Dyad that is answered against what it must be.
func checkOne(t *testing.T, call string, got api.Dyad, code int, want api.Dyad, c int) {
	t.Helper()
	check(t, call, api.Ival{Hi: got}, code, api.Ival{Hi: want}, c)
}

// maker makes the same numbers at each run.
func maker(seed uint64) *rand.Rand {
	return rand.New(rand.NewPCG(seed, 0))
}

// made is a Dyad of up to n limbs, with long rows of equal bits.
func made(r *rand.Rand, n, e int) api.Dyad {
	m := make([]uint64, 1+r.IntN(n))
	for i := range m {
		switch r.IntN(4) {
		case 0:
			m[i] = math.MaxUint64
		case 1:
			m[i] = 1 << r.IntN(64)
		case 2:
			m[i] = r.Uint64()
		}
	}
	m[0] |= 1
	m[len(m)-1] |= 1 << r.IntN(64)
	return api.Dyad{Neg: r.IntN(2) == 0, M: m, E: r.IntN(2*e+1) - e}
}

// madeSpan is an interval of two that are made so.
func madeSpan(r *rand.Rand, n, e int) api.Ival {
	a, b := made(r, n, e), made(r, n, e)
	if order(a, b) > 0 {
		a, b = b, a
	}
	return api.Ival{Lo: a, Hi: b}
}

// spans are all intervals between these, which rise.
func spans(ds []api.Dyad) []api.Ival {
	var all []api.Ival
	for i, a := range ds {
		for _, b := range ds[i:] {
			all = append(all, api.Ival{Lo: a, Hi: b})
		}
	}
	return all
}

// row are Dyads that rise, of few bits and of as many as may be.
func row() []api.Dyad {
	most := power(maxBits, -1)
	return []api.Dyad{is(new(big.Int).Neg(most), 0), of(-3, 0), of(-1, 0), of(-1, -1), of(-1, -maxBits), {}, of(3, -maxBits), of(1, -1), of(3, -2), of(1, 0), of(7, 0), is(most, 0), of(1, maxBits)}
}

// far are Dyads that rise, with E at the ends of its range.
func far() []api.Dyad {
	return []api.Dyad{of(-1, maxExp), of(-3, -maxExp), of(-1, -maxExp), {M: []uint64{}}, of(1, -maxExp), of(1, 0), of(1, maxExp), of(3, maxExp)}
}

// all are intervals of all kinds that matter.
func all() []api.Ival {
	return slices.Concat(spans(row()), spans(far()))
}

// pairs hands over pairs of intervals.
func pairs(try func(a, b api.Ival)) {
	for _, these := range [][]api.Ival{spans(row()), spans(far())} {
		for _, a := range these {
			for _, b := range these {
				try(a, b)
			}
		}
	}
	r := maker(1)
	for range 5000 {
		try(madeSpan(r, 3, 100), madeSpan(r, 3, 100))
	}
}

func TestMay(t *testing.T) {
	for _, a := range all() {
		if !ival.May(a) {
			t.Errorf("May(%v) is false", a)
		}
	}
	for _, a := range bad() {
		if ival.May(a) {
			t.Errorf("May(%v) is true", a)
		}
	}
	r := maker(2)
	for range 5000 {
		a := api.Ival{Lo: made(r, 3, 100), Hi: made(r, 3, 100)}
		if ival.May(a) != (order(a.Lo, a.Hi) <= 0) {
			t.Fatalf("May(%v) is %v", a, ival.May(a))
		}
	}
}

func TestOf(t *testing.T) {
	for _, d := range slices.Concat(row(), far(), badDyads) {
		check(t, "Of", ival.Of(d), 0, api.Ival{Lo: d, Hi: d}, 0)
	}
}

func TestMake(t *testing.T) {
	try := func(a, b api.Dyad) {
		got, code := ival.Make(a, b)
		if order(a, b) > 0 {
			check(t, "Make of what is above", got, code, api.Ival{}, api.ErrArg)
		} else {
			check(t, "Make", got, code, api.Ival{Lo: a, Hi: b}, api.OK)
		}
	}
	for _, ds := range [][]api.Dyad{row(), far()} {
		for _, a := range ds {
			for _, b := range ds {
				try(a, b)
			}
		}
	}
	r := maker(3)
	for range 5000 {
		try(made(r, 3, 100), made(r, 3, 100))
	}
	for _, d := range badDyads {
		for _, o := range slices.Concat(badDyads, row()) {
			got, code := ival.Make(d, o)
			check(t, "Make", got, code, api.Ival{}, api.ErrArg)
			got, code = ival.Make(o, d)
			check(t, "Make", got, code, api.Ival{}, api.ErrArg)
		}
	}
}

func TestHas(t *testing.T) {
	try := func(a api.Ival, d api.Dyad) {
		t.Helper()
		if got, want := ival.Has(a, d), order(a.Lo, d) <= 0 && order(d, a.Hi) <= 0; got != want {
			t.Fatalf("Has(%v, %v): %v", a, d, got)
		}
	}
	for _, ds := range [][]api.Dyad{row(), far()} {
		for _, a := range spans(ds) {
			for _, d := range ds {
				try(a, d)
			}
		}
	}
	r := maker(4)
	for range 5000 {
		try(madeSpan(r, 3, 100), made(r, 3, 100))
	}
	wide := api.Ival{Lo: of(-1, maxExp), Hi: of(1, maxExp)}
	for _, d := range badDyads {
		if ival.Has(wide, d) {
			t.Errorf("Has of %v, which may not be", d)
		}
	}
	for _, a := range bad() {
		for _, d := range append(row(), a.Lo, a.Hi, of(2, 0)) {
			if ival.Has(a, d) {
				t.Errorf("Has(%v, %v), which may not be", a, d)
			}
		}
	}
}

func TestWithinAndInside(t *testing.T) {
	pairs(func(a, b api.Ival) {
		lo, hi := order(b.Lo, a.Lo), order(a.Hi, b.Hi)
		if got := ival.Within(a, b); got != (lo <= 0 && hi <= 0) {
			t.Fatalf("Within(%v, %v): %v", a, b, got)
		}
		if got := ival.Inside(a, b); got != (lo < 0 && hi < 0) {
			t.Fatalf("Inside(%v, %v): %v", a, b, got)
		}
	})
	if ival.Inside(span(1, 2, 0), span(1, 3, 0)) {
		t.Error("the document's example")
	}
	wide := api.Ival{Lo: of(-1, maxExp), Hi: of(1, maxExp)}
	for _, a := range bad() {
		for _, b := range append(bad(), wide, span(0, 0, 0), span(2, 2, 0)) {
			if ival.Within(a, b) || ival.Within(b, a) || ival.Inside(a, b) || ival.Inside(b, a) {
				t.Errorf("of %v and %v, of which one may not be", a, b)
			}
		}
	}
}

func TestHullAndMeet(t *testing.T) {
	lesser := func(a, b api.Dyad) (api.Dyad, api.Dyad) {
		if order(a, b) > 0 {
			return b, a
		}
		return a, b
	}
	pairs(func(a, b api.Ival) {
		lo, from := lesser(a.Lo, b.Lo)
		to, hi := lesser(a.Hi, b.Hi)
		got, code := ival.Hull(a, b)
		check(t, "Hull", got, code, api.Ival{Lo: lo, Hi: hi}, api.OK)
		got, code = ival.Meet(a, b)
		if order(from, to) > 0 {
			check(t, "Meet of nothing", got, code, api.Ival{}, api.ErrNone)
		} else {
			check(t, "Meet", got, code, api.Ival{Lo: from, Hi: to}, api.OK)
		}
	})
}

// halved is x times 2^-1.
func halved(x number) number {
	return number{x.m, x.e - 1}
}

func TestWidthAndMid(t *testing.T) {
	try := func(a api.Ival) {
		t.Helper()
		want, c := expected(less(value(a.Hi), value(a.Lo)))
		got, code := ival.Width(a)
		checkOne(t, "Width", got, code, want, c)
		want, c = expected(halved(sum(value(a.Lo), value(a.Hi))))
		got, code = ival.Mid(a)
		checkOne(t, "Mid", got, code, want, c)
	}
	for _, a := range all() {
		try(a)
	}
	r := maker(5)
	for range 5000 {
		try(madeSpan(r, 4, 100))
		try(madeSpan(r, api.MaxLimbs, 100))
	}
}

// TestMidEdges: only the half's own E and limbs must be as they may.
func TestMidEdges(t *testing.T) {
	most := is(power(maxBits, -1), 0)
	for i, x := range []struct {
		lo, hi, want api.Dyad
		code         int
	}{
		{of(1, maxExp), of(1, maxExp), of(1, maxExp), api.OK},
		{of(-1, maxExp), of(-1, maxExp), of(-1, maxExp), api.OK},
		{of(1, maxExp), of(5, maxExp), of(3, maxExp), api.OK},
		{of(1, maxExp), of(3, maxExp), api.Dyad{}, api.ErrExp},
		{of(-1, maxExp), of(1, maxExp), api.Dyad{}, api.OK},
		{of(-1, maxExp), of(3, maxExp), of(1, maxExp), api.OK},
		{of(1, -maxExp), of(3, -maxExp), of(1, 1-maxExp), api.OK},
		{of(1, -maxExp), of(1, -maxExp), of(1, -maxExp), api.OK},
		{api.Dyad{}, of(1, -maxExp), api.Dyad{}, api.ErrExp},
		{api.Dyad{}, of(1, 1-maxExp), of(1, -maxExp), api.OK},
		{of(1, 0), most, of(1, maxBits-1), api.OK},
		{most, most, most, api.OK},
		{of(2, 0), most, api.Dyad{}, api.ErrLimb},
		{of(1, -1), most, api.Dyad{}, api.ErrLimb},
		{of(1, -maxExp), of(1, maxExp), api.Dyad{}, api.ErrLimb},
	} {
		got, code := ival.Mid(api.Ival{Lo: x.lo, Hi: x.hi})
		if code != x.code || !alike(got, x.want) {
			t.Errorf("%d: Mid: %v, %d; want %v, %d", i, got, code, x.want, x.code)
		}
	}
}

func TestInflate(t *testing.T) {
	try := func(a api.Ival, r api.Dyad) {
		t.Helper()
		got, code := ival.Inflate(a, r)
		if r.Neg {
			check(t, "Inflate by less than 0", got, code, api.Ival{}, api.ErrArg)
			return
		}
		want, c := both(less(value(a.Lo), value(r)), sum(value(a.Hi), value(r)))
		check(t, "Inflate", got, code, want, c)
	}
	for _, ds := range [][]api.Dyad{row(), far()} {
		for _, a := range spans(ds) {
			for _, r := range ds {
				try(a, r)
			}
		}
	}
	r := maker(6)
	for range 5000 {
		try(madeSpan(r, 4, 100), made(r, 4, 100))
		try(madeSpan(r, api.MaxLimbs, 100), made(r, api.MaxLimbs, 100))
	}
}

// TestInflateOrder: the Lo's error is told, where both ends have one; what may not be is told ahead of both.
func TestInflateOrder(t *testing.T) {
	for i, x := range []struct {
		a    api.Ival
		r    api.Dyad
		code int
	}{
		{api.Ival{Lo: of(-1, maxExp), Hi: of(1, 0)}, of(1, maxExp), api.ErrExp},
		{api.Ival{Lo: of(1, 0), Hi: of(1, maxExp)}, of(1, maxExp), api.ErrLimb},
		{api.Ival{Lo: api.Dyad{}, Hi: of(1, maxExp)}, of(1, maxExp), api.ErrExp},
		{api.Ival{Lo: api.Dyad{}, Hi: of(1, maxExp)}, of(1, -maxExp), api.ErrLimb},
		{api.Ival{Lo: of(-1, maxExp), Hi: of(1, maxExp)}, of(-1, maxExp), api.ErrArg},
		{api.Ival{Lo: of(-1, maxExp), Hi: of(-3, maxExp)}, of(1, maxExp), api.ErrArg},
		{api.Ival{Lo: of(1, 0), Hi: of(2, 0)}, of(1, 0), api.OK},
	} {
		if got, code := ival.Inflate(x.a, x.r); code != x.code || code != api.OK && !equal(got, api.Ival{}) {
			t.Errorf("%d: %v, %d; want %d", i, got, code, x.code)
		}
	}
}

// cut is x rounded to p bits, by asking for a floor alone.
func cut(x number, p int, up bool) number {
	if up {
		z := cut(number{new(big.Int).Neg(x.m), x.e}, p, false)
		return number{z.m.Neg(z.m), z.e}
	}
	n := max(0, x.m.BitLen()-p)
	return number{new(big.Int).Rsh(x.m, uint(n)), x.e + n} // Rsh rounds down.
}

func TestRound(t *testing.T) {
	try := func(a api.Ival, p int) {
		t.Helper()
		want, c := both(cut(value(a.Lo), p, false), cut(value(a.Hi), p, true))
		got, code := ival.Round(a, p)
		check(t, "Round", got, code, want, c)
	}
	for _, a := range all() {
		for _, p := range []int{1, 2, 3, 64, api.MaxPrec} {
			try(a, p)
		}
	}
	r := maker(7)
	for range 5000 {
		try(madeSpan(r, 4, 100), 1+r.IntN(200))
		try(madeSpan(r, api.MaxLimbs, 100), 1+r.IntN(api.MaxPrec))
	}
	// Each end has its own error, and needs a greater E only where it is cut.
	try(span(-3, 3, maxExp), 2)
	try(span(-3, 3, maxExp), 1)
	try(span(-3, 1, maxExp), 1)
	try(span(-1, 3, maxExp), 1)
	for _, p := range badPrecs {
		for _, a := range append(all(), bad()...) {
			got, code := ival.Round(a, p)
			check(t, "Round", got, code, api.Ival{}, api.ErrArg)
		}
	}
}

func TestSame(t *testing.T) {
	these := slices.Concat(spans(row()), bad())
	for i, a := range these {
		for j, b := range these {
			if got := ival.Same(a, b); got != (i == j || equal(a, b)) {
				t.Errorf("Same(%v, %v): %v", a, b, got)
			}
		}
	}
	if !ival.Same(api.Ival{Lo: api.Dyad{M: []uint64{}}}, api.Ival{Hi: api.Dyad{M: []uint64{}}}) {
		t.Error("M of nil and of none are the same")
	}
}

// answers are all calls that answer an Ival, or a Dyad as its Hi, as one shape; how many intervals each takes.
func answers() map[string]struct {
	takes int
	call  func(a, b api.Ival) (api.Ival, int)
} {
	type shape = struct {
		takes int
		call  func(a, b api.Ival) (api.Ival, int)
	}
	one := func(d api.Dyad, code int) (api.Ival, int) { return api.Ival{Hi: d}, code }
	return map[string]shape{
		"Hull":    {2, ival.Hull},
		"Meet":    {2, ival.Meet},
		"Width":   {1, func(a, _ api.Ival) (api.Ival, int) { return one(ival.Width(a)) }},
		"Mid":     {1, func(a, _ api.Ival) (api.Ival, int) { return one(ival.Mid(a)) }},
		"Inflate": {1, func(a, _ api.Ival) (api.Ival, int) { return ival.Inflate(a, of(3, -1)) }},
		"Round":   {1, func(a, _ api.Ival) (api.Ival, int) { return ival.Round(a, 7) }},
	}
}

// TestWrong hands over what may not be, beside what may and beside other things that are wrong.
func TestWrong(t *testing.T) {
	good := []api.Ival{{}, span(1, 2, 0), span(-9, 9, 7), {Lo: of(-1, maxExp), Hi: of(1, maxExp)}}
	for name, x := range answers() {
		for _, a := range bad() {
			for _, b := range slices.Concat(good, bad()) {
				got, code := x.call(a, b)
				check(t, name, got, code, api.Ival{}, api.ErrArg)
				if x.takes == 2 {
					got, code = x.call(b, a)
					check(t, name, got, code, api.Ival{}, api.ErrArg)
				}
			}
		}
	}
	for _, r := range append([]api.Dyad{of(-1, 0), of(-1, -maxExp)}, badDyads...) {
		for _, a := range slices.Concat(good, bad()) {
			got, code := ival.Inflate(a, r)
			check(t, "Inflate", got, code, api.Ival{}, api.ErrArg)
		}
	}
}

// TestMemory: what is handed in is not changed, and what is answered is the caller's own, each list of it by itself.
func TestMemory(t *testing.T) {
	these := []api.Ival{{}, span(1, 1, 0), span(-5, 9, -3), {Lo: of(-9, 70), Hi: is(power(200, -1), 3)}, {Lo: is(power(128, 1), -64), Hi: of(1, 99)}, span(3, 1, 0), {Hi: api.Dyad{M: []uint64{4}}}}
	calls := map[string]func(a, b api.Ival) (api.Ival, int){
		"Of":         func(a, _ api.Ival) (api.Ival, int) { return ival.Of(a.Hi), 0 },
		"Make":       func(a, b api.Ival) (api.Ival, int) { return ival.Make(a.Lo, b.Hi) },
		"Make twice": func(a, _ api.Ival) (api.Ival, int) { return ival.Make(a.Hi, a.Hi) },
		"Inflate 0":  func(a, _ api.Ival) (api.Ival, int) { return ival.Inflate(a, api.Dyad{}) },
		"Inflate b":  func(a, b api.Ival) (api.Ival, int) { return ival.Inflate(a, b.Hi) },
		"Round wide": func(a, _ api.Ival) (api.Ival, int) { return ival.Round(a, 500) },
		"asks": func(a, b api.Ival) (api.Ival, int) {
			ival.May(a)
			ival.Has(a, b.Lo)
			ival.Within(a, b)
			ival.Inside(a, b)
			ival.Same(a, b)
			return api.Ival{}, 0
		},
	}
	for name, x := range answers() {
		calls[name] = x.call
	}
	for name, call := range calls {
		for _, a := range these {
			for _, b := range these {
				want, _ := call(a, b)
				x, y := withRoom(a), withRoom(b)
				got, _ := call(x, y)
				if changed(x, a) || changed(y, b) {
					t.Fatalf("%s changed %v, %v to %v, %v", name, a, b, x, y)
				}
				for _, m := range [][]uint64{x.Lo.M, x.Hi.M, y.Lo.M, y.Hi.M} {
					spoil(m)
				}
				if !equal(got, want) {
					t.Fatalf("%s of %v, %v: the answer shares memory", name, a, b)
				}
				spoil(got.Lo.M)
				if !alike(got.Hi, want.Hi) {
					t.Fatalf("%s of %v, %v: the ends share memory", name, a, b)
				}
			}
		}
	}
}

// withRoom is a, with room behind its limbs that an append would write to.
func withRoom(a api.Ival) api.Ival {
	a.Lo.M = append(make([]uint64, 0, 8), a.Lo.M...)
	a.Hi.M = append(make([]uint64, 0, 8), a.Hi.M...)
	return a
}

// changed tells whether what came of withRoom(a) is something else by now.
func changed(got, a api.Ival) bool {
	want := withRoom(a)
	return !equal(got, a) || !slices.Equal(got.Lo.M[:8], want.Lo.M[:8]) || !slices.Equal(got.Hi.M[:8], want.Hi.M[:8])
}

// spoil overwrites m and the room behind it.
func spoil(m []uint64) {
	m = m[:cap(m)]
	for i := range m {
		m[i] = 0xbad
	}
}

// TestWild: of any arguments whatever no call panics; each answers what may be, and noughts beside an error.
func TestWild(t *testing.T) {
	r := maker(8)
	edges := []int{0, 1, -1, maxExp, -maxExp, maxExp + 1, -maxExp - 1, maxBits, -maxBits, math.MaxInt, math.MinInt}
	wild := func() api.Dyad {
		d := made(r, 1+r.IntN(70), 5000)
		switch r.IntN(8) {
		case 0:
			d.M[0] &^= 1
		case 1:
			d.M[len(d.M)-1] = 0
		case 2:
			d.M = nil
		}
		if r.IntN(2) == 0 {
			d.E = edges[r.IntN(len(edges))]
		}
		return d
	}
	for range 5000 {
		a, b := api.Ival{Lo: wild(), Hi: wild()}, api.Ival{Lo: wild(), Hi: wild()}
		ival.Of(a.Lo)
		if !dyad.May(a.Lo) && (ival.May(a) || ival.Has(a, b.Lo) || ival.Within(a, b) || ival.Inside(b, a)) {
			t.Fatalf("of %v, %v, of which one may not be", a, b)
		}
		calls := answers()
		calls["Make"] = struct {
			takes int
			call  func(a, b api.Ival) (api.Ival, int)
		}{1, func(a, _ api.Ival) (api.Ival, int) { return ival.Make(a.Lo, a.Hi) }}
		for name, x := range calls {
			got, code := x.call(a, b)
			wrong := !ival.May(a) || x.takes == 2 && !ival.May(b)
			single := name == "Mid" // whose Hi alone may be below the Lo that is none
			if wrong != (code == api.ErrArg) || !single && !ival.May(got) || !dyad.May(got.Hi) || code != api.OK && !equal(got, api.Ival{}) {
				t.Fatalf("%s of %v, %v: %v, %d", name, a, b, got, code)
			}
		}
	}
}

// TestSets: of 5.3, intervals are the sets of the numbers that they have.
func TestSets(t *testing.T) {
	points := func(a api.Ival) []bool {
		var in []bool
		for n := int64(-11); n <= 11; n++ {
			in = append(in, ival.Has(a, of(n, -1)))
		}
		return in
	}
	some := func(in []bool) bool { return slices.Contains(in, true) }
	var these []api.Ival
	for lo := int64(-4); lo <= 4; lo++ {
		for hi := lo; hi <= 4; hi++ {
			these = append(these, span(lo, hi, 0))
		}
	}
	for _, a := range these {
		for _, b := range these {
			ina, inb := points(a), points(b)
			all, inner, common := true, true, make([]bool, len(ina))
			for i := range ina {
				all = all && (!ina[i] || inb[i])
				inner = inner && (!ina[i] || inb[i-1] && inb[i] && inb[i+1])
				common[i] = ina[i] && inb[i]
			}
			if ival.Within(a, b) != all || ival.Inside(a, b) != inner {
				t.Fatalf("Within, Inside of %v, %v", a, b)
			}
			meet, code := ival.Meet(a, b)
			if some(common) != (code == api.OK) || code == api.OK && !slices.Equal(points(meet), common) {
				t.Fatalf("Meet of %v, %v: %v, %d", a, b, meet, code)
			}
			hull, code := ival.Hull(a, b)
			if code != api.OK || !ival.Within(a, hull) || !ival.Within(b, hull) {
				t.Fatalf("Hull of %v, %v: %v, %d", a, b, hull, code)
			}
			for _, c := range these {
				if ival.Within(a, c) && ival.Within(b, c) && !ival.Within(hull, c) {
					t.Fatalf("%v holds %v, %v and is less than their hull %v", c, a, b, hull)
				}
			}
		}
		mid, code := ival.Mid(a)
		if code != api.OK || !ival.Has(a, mid) {
			t.Fatalf("Mid of %v: %v, %d", a, mid, code)
		}
		wide, code := ival.Inflate(a, of(1, -1))
		if code != api.OK || !ival.Inside(a, wide) {
			t.Fatalf("Inflate of %v: %v, %d", a, wide, code)
		}
		short, code := ival.Round(a, 1)
		if code != api.OK || !ival.Within(a, short) {
			t.Fatalf("Round of %v: %v, %d", a, short, code)
		}
	}
}
