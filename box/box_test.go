package box_test

import (
	"cmp"
	"math"
	"math/big"
	"math/rand/v2"
	"slices"
	"testing"

	"sluiceway/api"
	"sluiceway/box"
)

const (
	maxExp  = api.MaxExp
	maxBits = 64 * api.MaxLimbs
)

// of is n times 2^e, made odd.
func of(n int64, e int) api.Dyad {
	if n == 0 {
		return api.Dyad{}
	}
	for n%2 == 0 {
		n, e = n/2, e+1
	}
	return api.Dyad{Neg: n < 0, M: []uint64{uint64(max(n, -n))}, E: e}
}

// ones is 2^n - 1.
func ones(n int) api.Dyad {
	m := slices.Repeat([]uint64{math.MaxUint64}, (n+63)/64)
	if n%64 > 0 {
		m[n/64] = 1<<(n%64) - 1
	}
	return api.Dyad{M: m}
}

// span is from a to b, both times 2^e.
func span(a, b int64, e int) api.Ival {
	return api.Ival{Lo: of(a, e), Hi: of(b, e)}
}

// row are these.
func row[T any](these ...T) []T {
	return these
}

// limbs is the natural that d's M is.
func limbs(d api.Dyad) *big.Int {
	z := new(big.Int)
	for _, x := range slices.Backward(d.M) {
		z.Lsh(z, 64).Or(z, new(big.Int).SetUint64(x))
	}
	return z
}

// order is -1, 0 or 1, as a is less than b, the same or greater.
func order(a, b api.Dyad) int {
	x, y := limbs(a), limbs(b)
	if a.Neg != b.Neg || x.Sign()*y.Sign() == 0 {
		return cmp.Compare(sign(a), sign(b))
	}
	// By their highest bits, which may be millions of bits apart; only with the same ones over one E.
	size := cmp.Compare(x.BitLen()+a.E, y.BitLen()+b.E)
	if size == 0 {
		e := min(a.E, b.E)
		size = x.Lsh(x, uint(a.E-e)).Cmp(y.Lsh(y, uint(b.E-e)))
	}
	return size * sign(a)
}

// sign is -1, 0 or 1.
func sign(d api.Dyad) int {
	switch {
	case len(d.M) == 0:
		return 0
	case d.Neg:
		return -1
	}
	return 1
}

// alike tells whether two Dyads have the same parts, without asking the program.
func alike(a, b api.Dyad) bool {
	return a.Neg == b.Neg && a.E == b.E && slices.Equal(a.M, b.M)
}

// equal tells whether two intervals have the same parts.
func equal(a, b api.Ival) bool {
	return alike(a.Lo, b.Lo) && alike(a.Hi, b.Hi)
}

// equals tells whether two boxes have the same parts.
func equals(a, b []api.Ival) bool {
	return slices.EqualFunc(a, b, equal)
}

// maker makes the same numbers at each run.
func maker(seed uint64) *rand.Rand {
	return rand.New(rand.NewPCG(seed, 0))
}

// grid are intervals of few numbers, so that ends are often the same, with numbers of many bits and exponents far apart among them.
func grid() []api.Ival {
	ends := row(of(-1, maxExp), of(-3, 0), of(-1, 0), of(-1, -maxExp), api.Dyad{}, of(1, -1), of(1, 0), ones(maxBits), of(1, maxBits), of(3, maxExp))
	var all []api.Ival
	for i, a := range ends {
		for _, b := range ends[i:] {
			all = append(all, api.Ival{Lo: a, Hi: b})
		}
	}
	return all
}

// pick are n of these.
func pick(r *rand.Rand, these []api.Ival, n int) []api.Ival {
	b := make([]api.Ival, n)
	for i := range b {
		b[i] = these[r.IntN(len(these))]
	}
	return b
}

// pairs hands over boxes that are equally long: of one row all pairs, of more those that are picked, every other time so that b is wider than a in most rows.
func pairs(try func(a, b []api.Ival)) {
	these := grid()
	for _, a := range these {
		for _, b := range these {
			try(row(a), row(b))
		}
	}
	r := maker(1)
	for i := range 20000 {
		n := r.IntN(8)
		a, b := pick(r, these, n), pick(r, these, n)
		if i%2 == 0 {
			for j := range b {
				if r.IntN(8) > 0 {
					b[j] = api.Ival{Lo: of(-1, maxExp), Hi: of(3, maxExp)}
				}
			}
		}
		try(a, b)
	}
}

// always tells whether what is asked holds of each of a with each of b.
func always(a, b []api.Ival, holds func(a, b api.Ival) bool) bool {
	count := 0
	for i := range a {
		if holds(a[i], b[i]) {
			count++
		}
	}
	return count == len(a)
}

// within and inside are 5's words.
func within(a, b api.Ival) bool { return order(b.Lo, a.Lo) <= 0 && order(a.Hi, b.Hi) <= 0 }
func inside(a, b api.Ival) bool { return order(b.Lo, a.Lo) < 0 && order(a.Hi, b.Hi) < 0 }

func TestWithinAndInside(t *testing.T) {
	var count [4]int
	pairs(func(a, b []api.Ival) {
		w, i := always(a, b, within), always(a, b, inside)
		if got := box.Within(a, b); got != w {
			t.Fatalf("Within(%v, %v): %v", a, b, got)
		}
		if got := box.Inside(a, b); got != i {
			t.Fatalf("Inside(%v, %v): %v", a, b, got)
		}
		if len(a) > 1 && w {
			count[0]++
		}
		if len(a) > 1 && i {
			count[1]++
		}
		if len(a) > 1 && !w {
			count[2]++
		}
		if len(a) > 1 && w && !i {
			count[3]++
		}
	})
	if slices.Min(count[:]) < 100 {
		t.Error("too few of a kind:", count)
	}
	// One row alone that is not, wherever it stands, beside rows that are.
	for n := 1; n < 70; n += 17 {
		outer := slices.Repeat(row(span(0, 4, 0)), n)
		inner := slices.Repeat(row(span(1, 3, 0)), n)
		if !box.Within(inner, outer) || !box.Inside(inner, outer) || !box.Within(outer, outer) || box.Inside(outer, outer) {
			t.Error("of", n)
		}
		for i := range n {
			other := slices.Clone(inner)
			for _, x := range []struct {
				a              api.Ival
				within, inside bool
			}{{span(0, 3, 0), true, false}, {span(1, 4, 0), true, false}, {span(-1, 3, 0), false, false}, {span(1, 5, 0), false, false}, {span(2, 2, 0), true, true}} {
				other[i] = x.a
				if box.Within(other, outer) != x.within || box.Inside(other, outer) != x.inside {
					t.Errorf("%v at %d of %d", x.a, i, n)
				}
			}
		}
	}
}

// points are numbers at ends and between them.
func points() []api.Dyad {
	return row(of(-5, maxExp), of(-1, maxExp), of(-3, 0), of(-3, -1), of(-1, 0), of(-1, -maxExp), api.Dyad{}, of(1, -maxExp), of(1, -1), of(1, 0), of(2, 0), ones(maxBits), of(1, maxBits), of(3, maxExp), of(1, maxExp))
}

func TestHas(t *testing.T) {
	has := func(a api.Ival, d api.Dyad) bool { return order(a.Lo, d) <= 0 && order(d, a.Hi) <= 0 }
	for _, a := range grid() {
		for _, d := range points() {
			if got := box.Has(row(a), row(d)); got != has(a, d) {
				t.Fatalf("Has(%v, %v): %v", a, d, got)
			}
		}
	}
	r, in := maker(2), 0
	for range 20000 {
		b := pick(r, grid(), 1+r.IntN(5))
		var x []api.Dyad
		want := true
		for _, a := range b {
			x = append(x, points()[r.IntN(len(points()))])
			if r.IntN(2) == 0 {
				x[len(x)-1] = a.Hi
			}
			want = has(a, x[len(x)-1]) && want
		}
		if want && len(b) > 1 {
			in++
		}
		if got := box.Has(b, x); got != want {
			t.Fatalf("Has(%v, %v): %v", b, x, got)
		}
	}
	if in < 100 {
		t.Error("too few are in:", in)
	}
	b, x := row(span(0, 2, 0), span(3, 4, 0)), row(of(1, 0), of(5, 0))
	if box.Has(b, x) || box.Has(b, x[:1]) || !box.Has(b[:1], x[:1]) {
		t.Error("of two, of which one is in")
	}
}

// picked is the greater one of a and b, or the lesser one.
func picked(a, b api.Dyad, greater bool) api.Dyad {
	if (order(a, b) > 0) == greater {
		return a
	}
	return b
}

func TestHullAndMeet(t *testing.T) {
	none, some := 0, 0
	pairs(func(a, b []api.Ival) {
		var hull, meet []api.Ival
		code := api.OK
		for i := range a {
			hull = append(hull, api.Ival{Lo: picked(a[i].Lo, b[i].Lo, false), Hi: picked(a[i].Hi, b[i].Hi, true)})
			m := api.Ival{Lo: picked(a[i].Lo, b[i].Lo, true), Hi: picked(a[i].Hi, b[i].Hi, false)}
			if order(m.Lo, m.Hi) > 0 {
				code = api.ErrNone
			}
			meet = append(meet, m)
		}
		if got, c := box.Hull(a, b); c != api.OK || !equals(got, hull) {
			t.Fatalf("Hull(%v, %v): %v, %d", a, b, got, c)
		}
		if code != api.OK {
			meet = nil
		}
		if got, c := box.Meet(a, b); c != code || !equals(got, meet) {
			t.Fatalf("Meet(%v, %v): %v, %d; want %v, %d", a, b, got, c, meet, code)
		}
		if len(a) > 1 && code == api.OK {
			some++
		}
		if len(a) > 1 && code != api.OK {
			none++
		}
	})
	if none < 100 || some < 100 {
		t.Error("too few of a kind:", none, some)
	}
	// One row alone without anything, wherever it stands.
	for i := range 70 {
		a, b := slices.Repeat(row(span(0, 1, 0)), 70), slices.Repeat(row(span(1, 2, 0)), 70)
		if got, code := box.Meet(a, b); code != api.OK || !equals(got, slices.Repeat(row(span(1, 1, 0)), 70)) {
			t.Fatal("one number in common:", got, code)
		}
		b[i] = span(3, 4, -1)
		if got, code := box.Meet(a, b); code != api.ErrNone || len(got) != 0 {
			t.Error("nothing at", i, got, code)
		}
	}
}

func TestWidth(t *testing.T) {
	r := maker(3)
	for range 5000 {
		var b []api.Ival
		var want int64
		for range r.IntN(9) {
			lo, wide := r.Int64N(2000)-1000, r.Int64N(40)
			b = append(b, span(lo, lo+wide, -3))
			want = max(want, wide)
		}
		if got, code := box.Width(b); code != api.OK || !alike(got, of(want, -3)) {
			t.Fatalf("Width(%v): %v, %d; want %d/8", b, got, code, want)
		}
	}
	for i, x := range []struct {
		b    []api.Ival
		want api.Dyad
	}{
		{nil, api.Dyad{}},
		{row[api.Ival](), api.Dyad{}},
		{row(api.Ival{}), api.Dyad{}},
		{row(span(7, 7, maxExp), span(-3, -3, 0)), api.Dyad{}},
		{row(span(5, 5, 0), span(-1, 0, -maxExp)), of(1, -maxExp)},
		{row(span(-1, 1, maxExp-1), span(0, 1, 0), span(0, 3, maxExp-2)), of(1, maxExp)},
		{row(api.Ival{Hi: ones(maxBits)}, span(0, 1, maxBits)), of(1, maxBits)},
		{row(api.Ival{Lo: of(1, 0), Hi: of(1, maxBits)}, span(0, 1, maxBits-1)), ones(maxBits)},
	} {
		for range x.b {
			x.b = append(x.b[1:len(x.b):len(x.b)], x.b[0])
			if got, code := box.Width(x.b); code != api.OK || !alike(got, x.want) {
				t.Errorf("%d: Width(%v): %v, %d; want %v", i, x.b, got, code, x.want)
			}
		}
		if got, code := box.Width(x.b); code != api.OK || !alike(got, x.want) {
			t.Errorf("%d: Width(%v): %v, %d; want %v", i, x.b, got, code, x.want)
		}
	}
}

// TestWidthErrors: of several rows that have an error the first one's is told, whatever stands ahead of it and behind it.
func TestWidthErrors(t *testing.T) {
	limb, exp := api.Ival{Lo: of(-1, -maxExp), Hi: of(1, maxExp)}, span(-1, 1, maxExp)
	good := row(span(1, 2, 0), span(0, 1, maxExp))
	for i, x := range []struct {
		rows []api.Ival
		code int
	}{
		{row(limb), api.ErrLimb},
		{row(exp), api.ErrExp},
		{row(span(2, 1, 0)), api.ErrArg},
		{row(limb, exp), api.ErrLimb},
		{row(exp, limb), api.ErrExp},
		{row(exp, exp, limb), api.ErrExp},
		{row(span(2, 1, 0), limb, exp), api.ErrArg},
		{row(limb, span(2, 1, 0)), api.ErrLimb},
		{row(exp, span(2, 1, 0)), api.ErrExp},
	} {
		for _, b := range [][]api.Ival{x.rows, slices.Concat(good, x.rows), slices.Concat(x.rows, good), slices.Concat(good[:1], x.rows[:1], good, x.rows[1:], good)} {
			if got, code := box.Width(b); code != x.code || !alike(got, api.Dyad{}) {
				t.Errorf("%d: Width(%v): %v, %d; want %d", i, b, got, code, x.code)
			}
		}
	}
}

// bit tells whether the bit n of k, the lowest is 0, is 1.
func bit(k, n int) bool {
	z := new(big.Int).And(big.NewInt(int64(k)), new(big.Int).Lsh(big.NewInt(1), uint(n)))
	return z.Sign() != 0
}

func TestCorner(t *testing.T) {
	if got := box.Corner(row(span(0, 1, 0), span(2, 3, 0)), 2); !slices.EqualFunc(got, row(of(0, 0), of(3, 0)), alike) {
		t.Error("the document's example:", got)
	}
	var rows []api.Ival
	for i := range int64(130) {
		rows = append(rows, span(-2*i-1, 2*i+5, int(i)-60))
	}
	ks := []int{0, 1, 2, 3, 5, -1, -2, math.MaxInt, math.MinInt, math.MinInt + 1, 1<<62 - 1, 0x2aaaaaaaaaaaaaaa, 0x5555555555555555, -0x5555555555555556}
	for n := range 63 {
		ks = append(ks, 1<<n, -1<<n, ^(1 << n))
	}
	for _, n := range []int{0, 1, 2, 5, 61, 62, 63, 64, 65, 66, 130} {
		for _, k := range ks {
			got := box.Corner(rows[:n], k)
			if len(got) != n {
				t.Fatalf("Corner of %d, %d: %d", n, k, len(got))
			}
			for i, d := range got {
				want := rows[i].Lo
				// The 63rd stands at 62.
				if i < 62 && bit(k, i) {
					want = rows[i].Hi
				}
				if !alike(d, want) {
					t.Fatalf("Corner of %d, %#x: at %d %v, want %v", n, k, i, d, want)
				}
			}
		}
	}
	for _, a := range grid() {
		for k := range 4 {
			want := row(a.Lo, api.Dyad{})
			if k%2 == 1 {
				want[0] = a.Hi
			}
			if k/2 == 1 {
				want[1] = of(1, 0)
			}
			if got := box.Corner(row(a, span(0, 1, 0)), k); !slices.EqualFunc(got, want, alike) {
				t.Fatalf("Corner of %v, %d: %v", a, k, got)
			}
		}
	}
}
