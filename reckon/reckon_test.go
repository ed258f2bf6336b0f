package reckon_test

import (
	"math/big"
	"math/rand/v2"
	"slices"
	"testing"

	"sluiceway/api"
	"sluiceway/dyad"
	"sluiceway/fault"
	"sluiceway/ival"
	"sluiceway/reckon"
)

// of is n times 2^e.
func of(n int64, e int) api.Dyad {
	return fault.Must(dyad.Of(n, e))
}

// span is from a to b, both times 2^e.
func span(a, b int64, e int) api.Ival {
	return api.Ival{Lo: of(a, e), Hi: of(b, e)}
}

// worth is d, exactly.
func worth(d api.Dyad) *big.Rat {
	z := new(big.Int)
	for _, x := range slices.Backward(d.M) {
		z.Lsh(z, 64).Or(z, new(big.Int).SetUint64(x))
	}
	if d.Neg {
		z.Neg(z)
	}
	unit := new(big.Int).Lsh(big.NewInt(1), uint(max(d.E, -d.E)))
	if d.E < 0 {
		return new(big.Rat).SetFrac(z, unit)
	}
	return new(big.Rat).SetInt(z.Mul(z, unit))
}

// has tells whether a holds v and is not wider than w.
func has(a api.Ival, v *big.Rat, w api.Dyad) bool {
	wide := fault.Must(ival.Width(a))
	return worth(a.Lo).Cmp(v) <= 0 && worth(a.Hi).Cmp(v) >= 0 && dyad.Cmp(wide, w) <= 0
}

// alone are numbers, each as the interval of it alone.
func alone(r *rand.Rand, n int) ([]api.Ival, []*big.Rat) {
	var all []api.Ival
	var values []*big.Rat
	for range n {
		d := of(r.Int64N(1<<40)-1<<39, -36-r.IntN(5))
		all, values = append(all, reckon.Only(d)), append(values, worth(d))
	}
	return all, values
}

// TestSum: of numbers alone it holds the exact sum, and not much more; of intervals all of theirs.
func TestSum(t *testing.T) {
	r := rand.New(rand.NewPCG(1, 0))
	for range 300 {
		n := 1 + r.IntN(12)
		c, values := alone(r, n)
		time, at := alone(r, 1)
		sum := new(big.Rat)
		for _, v := range slices.Backward(values) {
			sum.Mul(sum, at[0]).Add(sum, v)
		}
		if got := reckon.Sum(c, time[0], 200); !has(got, sum, of(1, -80)) {
			t.Fatalf("of %v at %v: %v", c, time, got)
		}
		wide := slices.Clone(c)
		for k := range wide {
			wide[k].Hi = fault.Must(dyad.Add(wide[k].Hi, of(1, -3)))
		}
		if got := reckon.Sum(wide, api.Ival{Lo: time[0].Lo, Hi: fault.Must(dyad.Add(time[0].Hi, of(1, 0)))}, 20); !has(got, sum, of(1, 60)) {
			t.Fatalf("of %v from %v on: %v", wide, time, got)
		}
	}
	if got := reckon.Sum([]api.Ival{span(1, 2, 0), span(-3, 5, 0)}, span(0, 1, 1), 8); !ival.Same(got, span(-5, 12, 0)) {
		t.Error(got)
	}
	// Far too near to 0 to be summed as it is.
	if got := reckon.Sum([]api.Ival{span(1, 1, 0), span(3, 3, -5000)}, span(1, 1, 0), 60); dyad.Cmp(got.Lo, of(1, 0)) > 0 || dyad.Cmp(got.Hi, of(1, 0)) <= 0 {
		t.Error(got)
	}
}

// TestShare: it holds the products together, divided.
func TestShare(t *testing.T) {
	r := rand.New(rand.NewPCG(2, 0))
	for range 300 {
		n := r.IntN(8)
		a, as := alone(r, n)
		b, bs := alone(r, n)
		by := 1 + r.IntN(40)
		sum := new(big.Rat)
		for k := range as {
			sum.Add(sum, new(big.Rat).Mul(as[k], bs[k]))
		}
		sum.Quo(sum, new(big.Rat).SetInt64(int64(by)))
		if got := reckon.Share(a, b, by, 200); !has(got, sum, of(1, -80)) {
			t.Fatalf("of %v, %v by %d: %v", a, b, by, got)
		}
	}
	if got := reckon.Share([]api.Ival{span(-1, 2, 0), span(3, 4, 0)}, []api.Ival{span(0, 3, 0), span(-2, -1, 0)}, 1, 8); !ival.Same(got, span(-11, 3, 0)) {
		t.Error(got)
	}
}

// TestRounded: outward, to so many bits.
func TestRounded(t *testing.T) {
	got := reckon.Rounded([]api.Ival{span(1023, 1025, 0), span(-1025, -1023, 0), span(7, 7, -5), {}}, 8)
	want := []api.Ival{span(1020, 1032, 0), span(-1032, -1020, 0), span(7, 7, -5), {}}
	if !slices.EqualFunc(got, want, ival.Same) {
		t.Error(got)
	}
}

// TestSpan: exactly, where it is a Dyad, else about.
func TestSpan(t *testing.T) {
	if got := reckon.Span(of(-3, -1), of(5, 0)); !ival.Same(got, span(13, 13, -1)) {
		t.Error(got)
	}
	far := of(1, -5000)
	for _, c := range []struct{ from, to api.Dyad }{{far, of(1, 0)}, {dyad.Neg(far), of(1, 0)}, {of(1, -1), fault.Must(dyad.Add(of(1, -1), of(1, -3000)))}, {of(-1, -api.MaxExp), of(1, -6000)}, {of(1, -api.MaxExp), of(1, -6000)}} {
		got := reckon.Span(c.from, c.to)
		if exact := new(big.Rat).Sub(worth(c.to), worth(c.from)); !has(got, exact, of(1, -200)) || got.Lo.Neg {
			t.Errorf("from %v to %v: %v", c.from, c.to, got)
		}
	}
}

// TestSmall: small calls, by what they are.
func TestSmall(t *testing.T) {
	for n := 1; n < 3000; n++ {
		if got := reckon.Whole(n); !ival.Same(got, span(int64(n), int64(n), 0)) {
			t.Fatal(n, got)
		}
	}
	if got := reckon.Size(span(-7, 5, 3)); !dyad.Same(got, of(7, 3)) {
		t.Error(got)
	}
	if got := reckon.Size(span(-7, 8, 3)); !dyad.Same(got, of(1, 6)) {
		t.Error(got)
	}
	if got := reckon.Size(span(-9, -8, 0)); !dyad.Same(got, of(9, 0)) {
		t.Error(got)
	}
	if got, code := reckon.Grown(span(1, 2, 0), of(3, -1)); code != api.OK || !ival.Same(got, span(-1, 7, -1)) {
		t.Error(got, code)
	}
	if got, code := reckon.Grown(span(1, 2, 0), of(1, -5000)); code != api.ErrLimb || !ival.Same(got, api.Ival{}) {
		t.Error(got, code)
	}
	if got, want := reckon.Wider([]api.Ival{span(1, 2, 0), span(-1, 1, -90)}, 60), []api.Ival{span(1, 5, -1), {Lo: fault.Must(dyad.Add(of(-1, -1), of(-1, -90))), Hi: fault.Must(dyad.Add(of(1, -1), of(1, -90)))}}; !slices.EqualFunc(got, want, ival.Same) {
		t.Error(got)
	}
	// Of what is no number 1/2 greater, that of the next ones is.
	if got := reckon.Wider([]api.Ival{span(1, 1, -5000)}, 60)[0]; dyad.Cmp(got.Lo, of(-1, -1)) != 0 || dyad.Cmp(got.Hi, of(1, -1)) <= 0 || dyad.Cmp(got.Hi, of(9, -4)) > 0 {
		t.Error(got)
	}
}

// TestFaults: what has no value panics as a fault.
func TestFaults(t *testing.T) {
	lines := append(reckon.Pars(2), api.Line{Op: api.ODiv, A: 0, B: 1})
	if got := reckon.Value(lines, 2, api.Ival{}, []api.Ival{span(3, 6, 0), span(2, 2, 0)}, 8); !ival.Same(got, span(3, 6, -1)) {
		t.Error(got)
	}
	if _, code := fault.Told(func() api.Ival {
		return reckon.Value(lines, 2, api.Ival{}, []api.Ival{span(3, 6, 0), span(-1, 2, 0)}, 8)
	}); code != api.ErrDomain {
		t.Error(code)
	}
	if _, code := fault.Told(func() api.Ival { return reckon.Sum([]api.Ival{span(1, 1, 5000), span(1, 1, 0)}, span(1, 1, 0), 8) }); code != api.ErrLimb {
		t.Error(code)
	}
}

// TestBlunt: an end that is nearer to 0 than 2^-1024 is moved outward, to the next one that isn't.
func TestBlunt(t *testing.T) {
	least, next, deep := of(1, -1024), of(1, -1025), of(5, -api.MaxExp)
	other := func(d api.Dyad) api.Dyad { return dyad.Neg(d) }
	for _, c := range []struct{ lo, hi, wantLo, wantHi api.Dyad }{
		{of(-1, 0), of(3, 0), of(-1, 0), of(3, 0)},
		{of(0, 0), of(0, 0), of(0, 0), of(0, 0)},
		{other(least), least, other(least), least},
		{other(next), next, other(least), least},
		{other(deep), deep, other(least), least},
		{next, next, of(0, 0), least},
		{other(next), other(deep), other(least), of(0, 0)},
		{least, of(3, -1024), least, of(3, -1024)},
		{of(-3, -1025), of(0, 0), of(-3, -1025), of(0, 0)},
		{of(-3, -1026), of(3, -1026), other(least), least},
		{of(3, -1025), of(1, api.MaxExp), of(3, -1025), of(1, api.MaxExp)},
	} {
		if got := reckon.Blunt(api.Ival{Lo: c.lo, Hi: c.hi}); !dyad.Same(got.Lo, c.wantLo) || !dyad.Same(got.Hi, c.wantHi) {
			t.Errorf("%v, %v: %v", c.lo, c.hi, got)
		}
	}
}
