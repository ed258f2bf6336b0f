package tube_test

import (
	"cmp"
	"math"
	"math/big"
	"math/rand/v2"
	"slices"
	"testing"

	"sluiceway/api"
	"sluiceway/tube"
)

const (
	maxExp  = api.MaxExp
	maxBits = 64 * api.MaxLimbs
)

// of is n times 2^e, made odd.
func of(n int64, e int) api.Dyad {
	if n == 0 {
		return api.Dyad{}
	}
	for n%2 == 0 {
		n, e = n/2, e+1
	}
	return api.Dyad{Neg: n < 0, M: []uint64{uint64(max(n, -n))}, E: e}
}

// ones is 2^n - 1.
func ones(n int) api.Dyad {
	m := slices.Repeat([]uint64{math.MaxUint64}, (n+63)/64)
	if n%64 > 0 {
		m[n/64] = 1<<(n%64) - 1
	}
	return api.Dyad{M: m}
}

// span is from a to b, both times 2^e.
func span(a, b int64, e int) api.Ival {
	return api.Ival{Lo: of(a, e), Hi: of(b, e)}
}

// row are these.
func row[T any](these ...T) []T {
	return these
}

// times are these, times 2^e.
func times(e int, these ...int64) []api.Dyad {
	var at []api.Dyad
	for _, n := range these {
		at = append(at, of(n, e))
	}
	return at
}

// even is a tube of n cells, from 0 to n, all the same.
func even(n int, v api.Ival) api.Tube {
	t := api.Tube{At: times(0, 0)}
	for k := range n {
		t.At, t.V = append(t.At, of(int64(k+1), 0)), append(t.V, v)
	}
	return t
}

// limbs is the natural that d's M is.
func limbs(d api.Dyad) *big.Int {
	z := new(big.Int)
	for _, x := range slices.Backward(d.M) {
		z.Lsh(z, 64).Or(z, new(big.Int).SetUint64(x))
	}
	return z
}

// exact is d times 2^-e, which is whole.
func exact(d api.Dyad, e int) *big.Int {
	z := limbs(d)
	if len(d.M) > 0 {
		z.Lsh(z, uint(d.E-e))
	}
	if d.Neg {
		z.Neg(z)
	}
	return z
}

// dyadic is z times 2^e, made odd.
func dyadic(z *big.Int, e int) api.Dyad {
	d := api.Dyad{Neg: z.Sign() < 0}
	if z.Sign() == 0 {
		return d
	}
	low := z.TrailingZeroBits()
	d.E = e + int(low)
	bits := new(big.Int).Rsh(new(big.Int).Abs(z), low)
	for ; bits.Sign() > 0; bits.Rsh(bits, 64) {
		d.M = append(d.M, new(big.Int).And(bits, new(big.Int).SetUint64(math.MaxUint64)).Uint64())
	}
	return d
}

// sign is -1, 0 or 1.
func sign(d api.Dyad) int {
	switch {
	case len(d.M) == 0:
		return 0
	case d.Neg:
		return -1
	}
	return 1
}

// order is -1, 0 or 1, as a is less than b, the same or greater.
func order(a, b api.Dyad) int {
	x, y := limbs(a), limbs(b)
	if a.Neg != b.Neg || x.Sign()*y.Sign() == 0 {
		return cmp.Compare(sign(a), sign(b))
	}
	// By their highest bits, which may be millions of bits apart; only with the same ones over one E.
	size := cmp.Compare(x.BitLen()+a.E, y.BitLen()+b.E)
	if size == 0 {
		e := min(a.E, b.E)
		size = x.Lsh(x, uint(a.E-e)).Cmp(y.Lsh(y, uint(b.E-e)))
	}
	return size * sign(a)
}

// alike tells whether two Dyads have the same parts, without asking the program.
func alike(a, b api.Dyad) bool {
	return a.Neg == b.Neg && a.E == b.E && slices.Equal(a.M, b.M)
}

// equal tells whether two intervals have the same parts.
func equal(a, b api.Ival) bool {
	return alike(a.Lo, b.Lo) && alike(a.Hi, b.Hi)
}

// equals tells whether two tubes have the same parts.
func equals(a, b api.Tube) bool {
	return slices.EqualFunc(a.At, b.At, alike) && slices.EqualFunc(a.V, b.V, equal)
}

// maker makes the same numbers at each run.
func maker(seed uint64) *rand.Rand {
	return rand.New(rand.NewPCG(seed, 0))
}

// marks are numbers that rise: of many bits and with exponents far apart, and close to each other too.
func marks() []api.Dyad {
	return row(of(-5, maxExp), of(-1, maxExp), of(-3, 0), of(-3, -1), of(-1, 0), of(-1, -maxExp), api.Dyad{}, of(1, -maxExp), of(1, -1), of(1, 0), of(2, 0), ones(maxBits), of(1, maxBits), of(3, maxBits), of(1, maxExp), of(3, maxExp))
}

// picked are n of these, in their order.
func picked(r *rand.Rand, these []api.Dyad, n int) []api.Dyad {
	places := r.Perm(len(these))[:n]
	slices.Sort(places)
	var some []api.Dyad
	for _, i := range places {
		some = append(some, these[i])
	}
	return some
}

// valued is the tube of these times, with cells between any of these ends.
func valued(r *rand.Rand, at, ends []api.Dyad) api.Tube {
	t := api.Tube{At: at}
	for range len(at) - 1 {
		i, j := r.IntN(len(ends)), r.IntN(len(ends))
		t.V = append(t.V, api.Ival{Lo: ends[min(i, j)], Hi: ends[max(i, j)]})
	}
	return t
}

// far is any tube with times and ends among the marks.
func far(r *rand.Rand) api.Tube {
	return valued(r, picked(r, marks(), 2+r.IntN(len(marks())-1)), marks())
}

// quarters are numbers that rise, from 0 to 8.
func quarters() []api.Dyad {
	var at []api.Dyad
	for n := range int64(33) {
		at = append(at, of(n, -2))
	}
	return at
}

// near is any tube with times from 0 to 8, and with ends of few numbers.
func near(r *rand.Rand) api.Tube {
	return valued(r, picked(r, quarters(), 2+r.IntN(20)), times(-1, -3, -1, 0, 1, 2, 5, 9))
}

func TestMay(t *testing.T) {
	r := maker(1)
	for range 2000 {
		for _, a := range row(near(r), far(r)) {
			if !tube.May(a) {
				t.Fatalf("May(%v) is false", a)
			}
		}
	}
	for n := range api.MaxCells + 3 {
		if got := tube.May(even(n, span(-1, 1, 0))); got != (0 < n && n <= api.MaxCells) {
			t.Errorf("May of %d cells: %v", n, got)
		}
	}
	if tube.May(even(100000, span(-1, 1, 0))) {
		t.Error("May of very many cells")
	}
}

func TestMake(t *testing.T) {
	r := maker(2)
	for _, from := range marks() {
		for _, to := range marks() {
			v := valued(r, row(from, to), marks()).V[0]
			got, code := tube.Make(from, to, v)
			if order(from, to) >= 0 {
				if code != api.ErrArg || !equals(got, api.Tube{}) {
					t.Errorf("Make(%v, %v, %v): %v, %d", from, to, v, got, code)
				}
				continue
			}
			if code != api.OK || !equals(got, api.Tube{At: row(from, to), V: row(v)}) {
				t.Errorf("Make(%v, %v, %v): %v, %d", from, to, v, got, code)
			}
		}
	}
}

// over is the hull of all cells of t that have a time from from to to, or ErrNone, as the chapter has it.
func over(t api.Tube, from, to api.Dyad) (api.Ival, int) {
	if order(from, t.At[0]) < 0 || order(to, t.At[len(t.At)-1]) > 0 {
		return api.Ival{}, api.ErrNone
	}
	var los, his []api.Dyad
	for k, v := range t.V {
		if order(t.At[k], to) <= 0 && order(from, t.At[k+1]) <= 0 {
			los, his = append(los, v.Lo), append(his, v.Hi)
		}
	}
	return api.Ival{Lo: slices.MinFunc(los, order), Hi: slices.MaxFunc(his, order)}, api.OK
}

// eighths are times in all quarters and at their ends, and some outside.
func eighths() []api.Dyad {
	var at []api.Dyad
	for n := int64(-2); n <= 66; n++ {
		at = append(at, of(n, -3))
	}
	return at
}

// TestAt asks at ends of cells, in them and outside.
func TestAt(t *testing.T) {
	r, none := maker(3), 0
	for range 300 {
		for i, a := range row(near(r), far(r)) {
			for _, d := range row(eighths(), marks())[i] {
				want, code := over(a, d, d)
				got, c := tube.At(a, d)
				if c != code || !equal(got, want) {
					t.Fatalf("At(%v, %v): %v, %d, want %v, %d", a, d, got, c, want, code)
				}
				if code == api.ErrNone {
					none++
				}
			}
		}
	}
	if none < 1000 {
		t.Error("too few outside:", none)
	}
	a := api.Tube{At: times(0, 0, 1, 3), V: row(span(1, 2, 0), span(4, 5, 0))}
	for _, x := range []struct {
		d    api.Dyad
		want api.Ival
	}{{of(0, 0), span(1, 2, 0)}, {of(1, -9), span(1, 2, 0)}, {of(1, 0), span(1, 5, 0)}, {of(3, -1), span(4, 5, 0)}, {of(3, 0), span(4, 5, 0)}} {
		if got, code := tube.At(a, x.d); code != api.OK || !equal(got, x.want) {
			t.Errorf("At %v: %v, %d", x.d, got, code)
		}
	}
	for _, d := range row(of(-1, -maxExp), of(-1, maxExp), of(7, -1), of(1, maxExp)) {
		if got, code := tube.At(a, d); code != api.ErrNone || !equal(got, api.Ival{}) {
			t.Errorf("At %v: %v, %d", d, got, code)
		}
	}
}

func TestOver(t *testing.T) {
	r := maker(4)
	var count [3]int
	for range 30 {
		for i, a := range row(near(r), far(r)) {
			at := row(eighths(), marks())[i]
			for _, from := range at {
				for _, to := range at {
					want, code := api.Ival{}, api.ErrArg
					if order(from, to) <= 0 {
						want, code = over(a, from, to)
					}
					got, c := tube.Over(a, from, to)
					if c != code || !equal(got, want) {
						t.Fatalf("Over(%v, %v, %v): %v, %d, want %v, %d", a, from, to, got, c, want, code)
					}
					count[min(code, 2)]++
				}
			}
		}
	}
	if slices.Min(count[:]) < 1000 {
		t.Error("too few of a kind:", count)
	}
	a := even(api.MaxCells, span(-1, 1, 0))
	a.V[0], a.V[99], a.V[api.MaxCells-1] = span(-2, 0, 0), span(0, 3, 0), span(-4, -4, 0)
	for _, x := range []struct {
		from, to int64
		want     api.Ival
	}{{0, 256, span(-4, 3, 0)}, {0, 98, span(-2, 1, 0)}, {0, 99, span(-2, 3, 0)}, {2, 255, span(-4, 3, 0)}, {101, 254, span(-1, 1, 0)}, {100, 100, span(-1, 3, 0)}} {
		if got, code := tube.Over(a, of(x.from, 0), of(x.to, 0)); code != api.OK || !equal(got, x.want) {
			t.Errorf("Over from %d to %d: %v, %d", x.from, x.to, got, code)
		}
	}
}

// moved is t, but that it begins where another one ends.
func moved(t api.Tube, by int64) api.Tube {
	m := api.Tube{V: t.V}
	for _, d := range t.At {
		m.At = append(m.At, dyadic(new(big.Int).Add(exact(d, -3), big.NewInt(by<<3)), -3))
	}
	return m
}

func TestJoin(t *testing.T) {
	r := maker(5)
	for range 3000 {
		all := near(r)
		n := 1 + r.IntN(len(all.V))
		a := api.Tube{At: all.At[:n+1], V: all.V[:n]}
		if n < len(all.V) {
			b := api.Tube{At: all.At[n:], V: all.V[n:]}
			if got, code := tube.Join(a, b); code != api.OK || !equals(got, all) {
				t.Fatalf("Join(%v, %v): %v, %d", a, b, got, code)
			}
		}
		// None of these begins where a ends: they begin at its beginning, a bit off, far ahead or behind.
		for _, b := range row(a, all, moved(all, 9), moved(all, -9), far(r)) {
			if alike(a.At[n], b.At[0]) {
				continue
			}
			if got, code := tube.Join(a, b); code != api.ErrArg || !equals(got, api.Tube{}) {
				t.Fatalf("Join(%v, %v): %v, %d", a, b, got, code)
			}
		}
	}
	for n := 1; n <= api.MaxCells; n += 15 {
		a := even(n, span(0, 1, 0))
		for _, m := range []int{1, api.MaxCells - n - 1, api.MaxCells - n, api.MaxCells - n + 1, api.MaxCells} {
			if m < 1 {
				continue
			}
			b := moved(even(m, span(0, 2, 0)), int64(n))
			got, code := tube.Join(a, b)
			if fits := n+m <= api.MaxCells; fits != (code == api.OK) || !fits && (code != api.ErrArg || !equals(got, api.Tube{})) || fits && (!tube.May(got) || len(got.V) != n+m || !equal(got.V[n], b.V[0]) || !equal(got.V[n-1], a.V[0])) {
				t.Errorf("Join of %d and %d cells: %d cells, %d", n, m, len(got.V), code)
			}
		}
	}
	// Those of far times too.
	a, b := api.Tube{At: row(of(-3, maxExp), ones(maxBits)), V: row(span(0, 1, 0))}, api.Tube{At: row(ones(maxBits), of(3, maxExp)), V: row(span(5, 6, 0))}
	if got, code := tube.Join(a, b); code != api.OK || !equals(got, api.Tube{At: row(of(-3, maxExp), ones(maxBits), of(3, maxExp)), V: row(span(0, 1, 0), span(5, 6, 0))}) {
		t.Errorf("Join: %v, %d", got, code)
	}
}

func TestWidth(t *testing.T) {
	r := maker(6)
	for range 3000 {
		a := near(r)
		widest := new(big.Int)
		for _, v := range a.V {
			if w := new(big.Int).Sub(exact(v.Hi, -2), exact(v.Lo, -2)); w.Cmp(widest) > 0 {
				widest = w
			}
		}
		if got, code := tube.Width(a); code != api.OK || !alike(got, dyadic(widest, -2)) {
			t.Fatalf("Width(%v): %v, %d, want %v", a, got, code, widest)
		}
	}
	for _, x := range []struct {
		v    []api.Ival
		want api.Dyad
		code int
	}{
		{row(span(3, 3, 0)), api.Dyad{}, api.OK},
		{row(span(1, 2, -maxExp), span(0, 0, 0)), of(1, -maxExp), api.OK},
		{row(span(0, 1, 0), span(0, 1, 1), span(5, 6, 0)), of(2, 0), api.OK},
		{row(span(0, 1, 0), span(-1, 1, maxExp)), api.Dyad{}, api.ErrExp},
		{row(span(0, 1, 0), span(-1, 1, maxExp), span(0, 1, 0)), api.Dyad{}, api.ErrExp},
		{row(span(0, 1, 0), api.Ival{Lo: of(1, 0), Hi: of(1, maxBits+9)}), api.Dyad{}, api.ErrLimb},
		// The first error of two, whichever it is.
		{row(span(-1, 1, maxExp), api.Ival{Lo: of(1, 0), Hi: of(1, maxBits+9)}), api.Dyad{}, api.ErrExp},
		{row(api.Ival{Lo: of(1, 0), Hi: of(1, maxBits+9)}, span(-1, 1, maxExp)), api.Dyad{}, api.ErrLimb},
	} {
		a := even(len(x.v), api.Ival{})
		a.V = x.v
		if got, code := tube.Width(a); code != x.code || !alike(got, x.want) {
			t.Errorf("Width of %v: %v, %d, want %v, %d", x.v, got, code, x.want, x.code)
		}
	}
}

func TestHalve(t *testing.T) {
	r := maker(7)
	for range 3000 {
		a := near(r)
		want := api.Tube{At: a.At[:1:1]}
		for k, v := range a.V {
			mid := dyadic(new(big.Int).Add(exact(a.At[k], -2), exact(a.At[k+1], -2)), -3)
			want.At, want.V = append(want.At, mid, a.At[k+1]), append(want.V, v, v)
		}
		if got, code := tube.Halve(a); code != api.OK || !equals(got, want) {
			t.Fatalf("Halve(%v): %v, %d, want %v", a, got, code, want)
		}
	}
	v := span(1, 2, 0)
	for _, x := range []struct {
		at   []api.Dyad
		mids []api.Dyad
		code int
	}{
		{row(of(-1, maxExp), of(3, maxExp)), row(of(1, maxExp)), api.OK},
		{row(of(1, maxExp), of(3, maxExp)), nil, api.ErrExp},
		{row(api.Dyad{}, of(1, -maxExp)), nil, api.ErrExp},
		{row(of(-1, -maxExp), of(1, -maxExp)), row(api.Dyad{}), api.OK},
		{row(of(1, -maxExp), of(1, 1-maxExp)), nil, api.ErrExp},
		{row(api.Dyad{}, of(1, maxExp)), row(of(1, maxExp-1)), api.OK},
		{row(of(1, 0), ones(maxBits)), row(of(1, maxBits-1)), api.OK},
		{row(of(1, 0), of(1, maxBits+9)), nil, api.ErrLimb},
		{row(of(1, 0), of(1, 1), of(1, maxBits+9), of(3, maxExp)), nil, api.ErrLimb},
		{row(of(-3, maxExp), of(-1, maxExp), of(1, 0), of(1, maxBits+9)), nil, api.ErrExp},
	} {
		a := api.Tube{At: x.at, V: slices.Repeat(row(v), len(x.at)-1)}
		want := api.Tube{}
		for k, mid := range x.mids {
			want.At, want.V = append(want.At, x.at[k], mid), append(want.V, v, v)
		}
		if x.code == api.OK {
			want.At = append(want.At, x.at[len(x.at)-1])
		}
		if got, code := tube.Halve(a); code != x.code || !equals(got, want) {
			t.Errorf("Halve of %v: %v, %d, want %v, %d", x.at, got, code, want, x.code)
		}
	}
	for _, n := range []int{1, 127, 128, 129, 255, 256} {
		got, code := tube.Halve(even(n, v))
		if fits := 2*n <= api.MaxCells; fits != (code == api.OK) || fits && len(got.V) != 2*n || !fits && (code != api.ErrArg || !equals(got, api.Tube{})) {
			t.Errorf("Halve of %d cells: %d cells, %d", n, len(got.V), code)
		}
	}
	// Of the two errors the middle's is named first.
	long := moved(even(200, v), -200)
	long.At[200] = of(1, -maxExp)
	if got, code := tube.Halve(long); code != api.ErrLimb || !equals(got, api.Tube{}) {
		t.Errorf("Halve of 200 cells with a middle that is too long: %d cells, %d", len(got.V), code)
	}
}

// cut is what there is of t from from to to, or an error, as the chapter has it.
func cut(t api.Tube, from, to api.Dyad) (api.Tube, int) {
	if order(from, to) >= 0 {
		return api.Tube{}, api.ErrArg
	}
	if order(from, t.At[0]) < 0 || order(to, t.At[len(t.At)-1]) > 0 {
		return api.Tube{}, api.ErrNone
	}
	piece := api.Tube{At: row(from)}
	for k, v := range t.V {
		begin, end := slices.MaxFunc(row(from, t.At[k]), order), slices.MinFunc(row(to, t.At[k+1]), order)
		if order(begin, end) < 0 {
			piece.At, piece.V = append(piece.At, end), append(piece.V, v)
		}
	}
	return piece, api.OK
}

func TestCut(t *testing.T) {
	r := maker(8)
	var count [3]int
	for range 30 {
		for i, a := range row(near(r), far(r)) {
			at := row(eighths(), marks())[i]
			for _, from := range at {
				for _, to := range at {
					want, code := cut(a, from, to)
					got, c := tube.Cut(a, from, to)
					if c != code || !equals(got, want) {
						t.Fatalf("Cut(%v, %v, %v): %v, %d, want %v, %d", a, from, to, got, c, want, code)
					}
					if code == api.OK && !tube.May(got) {
						t.Fatalf("Cut(%v, %v, %v) may not be", a, from, to)
					}
					count[min(code, 2)]++
				}
			}
			if got, code := tube.Cut(a, a.At[0], a.At[len(a.V)]); code != api.OK || !equals(got, a) {
				t.Fatalf("Cut of all of %v: %v, %d", a, got, code)
			}
		}
	}
	if slices.Min(count[:]) < 1000 {
		t.Error("too few of a kind:", count)
	}
	a := api.Tube{At: times(0, 0, 1, 3), V: row(span(1, 2, 0), span(4, 5, 0))}
	if got, code := tube.Cut(a, of(1, -1), of(1, 0)); code != api.OK || !equals(got, api.Tube{At: row(of(1, -1), of(1, 0)), V: row(span(1, 2, 0))}) {
		t.Errorf("Cut up to where a cell ends: %v, %d", got, code)
	}
	if got, code := tube.Cut(a, of(5, -2), of(6, -2)); code != api.OK || !equals(got, api.Tube{At: row(of(5, -2), of(6, -2)), V: row(span(4, 5, 0))}) {
		t.Errorf("Cut within one cell: %v, %d", got, code)
	}
	if got, code := tube.Cut(a, of(1, 0), of(1, 0)); code != api.ErrArg || !equals(got, api.Tube{}) {
		t.Errorf("Cut of no time: %v, %d", got, code)
	}
	if got, code := tube.Cut(a, of(5, 0), of(4, 0)); code != api.ErrArg || !equals(got, api.Tube{}) {
		t.Errorf("Cut back, outside: %v, %d", got, code)
	}
}

func TestSame(t *testing.T) {
	r := maker(9)
	for range 2000 {
		a, b := near(r), near(r)
		if tube.Same(a, b) != equals(a, b) || !tube.Same(a, a) {
			t.Fatalf("Same(%v, %v)", a, b)
		}
		// With one part that is another.
		for i := range len(a.At) + 2*len(a.V) {
			other := api.Tube{At: slices.Clone(a.At), V: slices.Clone(a.V)}
			switch j := i - len(a.At); {
			case j < 0:
				other.At[i] = of(1, -7)
			case j%2 == 0:
				other.V[j/2].Lo = of(-77, 0)
			default:
				other.V[j/2].Hi = of(77, 0)
			}
			if tube.Same(a, other) || tube.Same(other, a) {
				t.Fatalf("Same of %v, with another part at %d", a, i)
			}
		}
		n := len(a.V)
		for _, short := range []api.Tube{{At: a.At[:n], V: a.V}, {At: a.At, V: a.V[:n-1]}, {At: a.At[:n], V: a.V[:n-1]}, {At: a.At}, {V: a.V}, {}} {
			if tube.Same(a, short) || tube.Same(short, a) {
				t.Fatalf("Same of %v, and less of it", a)
			}
		}
	}
	none := api.Dyad{M: []uint64{}}
	if !tube.Same(api.Tube{}, api.Tube{At: []api.Dyad{}, V: []api.Ival{}}) || !tube.Same(api.Tube{At: row(none)}, api.Tube{At: make([]api.Dyad, 1)}) {
		t.Error("Same of nothing")
	}
	// The same cells with other times are not the same.
	a, b := even(2, span(0, 1, 0)), even(2, span(0, 1, 0))
	b.At[1] = of(3, -1)
	if tube.Same(a, b) {
		t.Error("Same of other times")
	}
}
