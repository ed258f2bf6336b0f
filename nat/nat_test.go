package nat_test

import (
	"math"
	"math/big"
	"slices"
	"testing"

	"sluiceway/api"
	"sluiceway/nat"
)

const full = math.MaxUint64

// bad are limbs that are no natural: with a nought at the end, or one limb too many.
var bad = [][]uint64{{0}, {1, 0}, {0, 0, 0}, repeated(api.MaxLimbs, 0), repeated(api.MaxLimbs+1, 1), repeated(api.MaxLimbs+1, 0), repeated(1000, full)}

// maker makes the same limbs at each run.
type maker struct{ state uint64 }

func (m *maker) next() uint64 {
	m.state += 0x9e3779b97f4a7c15
	z := m.state
	z = (z ^ z>>30) * 0xbf58476d1ce4e5b9
	z = (z ^ z>>27) * 0x94d049bb133111eb
	return z ^ z>>31
}

// natural is one of n limbs, in which limbs near a bound are frequent.
func (m *maker) natural(n int) []uint64 {
	edges := [...]uint64{0, 1, 2, 1<<63 - 1, 1 << 63, 1<<63 + 1, full - 1, full}
	a := make([]uint64, n)
	for i := range a {
		if x := m.next(); x%3 == 0 {
			a[i] = m.next()
		} else {
			a[i] = edges[x/3%8]
		}
	}
	if n > 0 && a[n-1] == 0 {
		a[n-1] = 1
	}
	return a
}

func repeated(n int, x uint64) []uint64 {
	return slices.Repeat([]uint64{x}, n)
}

// power is 2^n.
func power(n int) []uint64 {
	a := make([]uint64, n/64+1)
	a[n/64] = 1 << (n % 64)
	return a
}

func toBig(a []uint64) *big.Int {
	z := new(big.Int)
	for _, x := range slices.Backward(a) {
		z.Lsh(z, 64).Or(z, new(big.Int).SetUint64(x))
	}
	return z
}

func fromBig(z *big.Int) []uint64 {
	var a []uint64
	low := new(big.Int).SetUint64(full)
	for z = new(big.Int).Set(z); z.Sign() > 0; z.Rsh(z, 64) {
		a = append(a, new(big.Int).And(z, low).Uint64())
	}
	return a
}

// samples are naturals of all lengths that matter.
func samples() [][]uint64 {
	all := [][]uint64{nil, {}, {1}, {2}, {3}, {full}, {1 << 63}, {0, 1}, {full, full}, {0, 1 << 63}, {1, 0, 1}, {0, 0, 1}, {5, 0, 7}}
	m := &maker{state: 1}
	for _, n := range []int{1, 1, 2, 2, 3, 4, 7, 31, 32, 33, 63, 64, 64} {
		all = append(all, m.natural(n), repeated(n, full), power(64*n-1), power(64*n-64))
	}
	return all
}

// pairs hands over pairs of samples and of naturals made for it.
func pairs(try func(a, b []uint64)) {
	all := samples()
	for _, a := range all {
		for _, b := range all {
			try(a, b)
		}
	}
	m := &maker{state: 2}
	for range 20000 {
		try(m.natural(int(m.next()%8)), m.natural(int(m.next()%6)))
	}
}

// check holds an answer with at most one natural against what math/big says.
func check(t *testing.T, call string, got []uint64, code int, want *big.Int) {
	t.Helper()
	w := fromBig(want)
	if len(w) > api.MaxLimbs {
		if code != api.ErrLimb || len(got) != 0 {
			t.Fatalf("%s: %v, %d; want ErrLimb", call, got, code)
		}
		return
	}
	if code != api.OK || !slices.Equal(got, w) {
		t.Fatalf("%s: %v, %d; want %v", call, got, code, w)
	}
}

func TestMay(t *testing.T) {
	for _, a := range samples() {
		if !nat.May(a) {
			t.Errorf("May(%v) is false", a)
		}
	}
	for _, a := range bad {
		if nat.May(a) {
			t.Errorf("May(%v) is true", a)
		}
	}
}

func TestNorm(t *testing.T) {
	for _, x := range []struct{ a, want []uint64 }{
		{nil, nil}, {[]uint64{}, nil}, {[]uint64{0}, nil}, {repeated(100, 0), nil},
		{[]uint64{7}, []uint64{7}}, {[]uint64{7, 0}, []uint64{7}}, {[]uint64{7, 0, 0, 0}, []uint64{7}},
		{[]uint64{0, 7, 0}, []uint64{0, 7}}, {[]uint64{0, 0, 1}, []uint64{0, 0, 1}},
		{append(repeated(80, 3), 0), repeated(80, 3)},
	} {
		if got := nat.Norm(x.a); !slices.Equal(got, x.want) {
			t.Errorf("Norm(%v): %v", x.a, got)
		}
	}
}

func TestCmp(t *testing.T) {
	pairs(func(a, b []uint64) {
		if got, want := nat.Cmp(a, b), toBig(a).Cmp(toBig(b)); got != want {
			t.Fatalf("Cmp(%v, %v): %d, want %d", a, b, got, want)
		}
	})
	for _, b := range bad {
		if nat.Cmp(b, nil) != 0 || nat.Cmp(nil, b) != 0 || nat.Cmp(b, []uint64{9}) != 0 || nat.Cmp([]uint64{9}, b) != 0 || nat.Cmp(b, b) != 0 {
			t.Errorf("Cmp with %v is not 0", b)
		}
	}
}

func TestLenAndLow(t *testing.T) {
	for _, a := range samples() {
		z := toBig(a)
		low := -1
		if z.Sign() > 0 {
			low = int(z.TrailingZeroBits())
		}
		if nat.Len(a) != z.BitLen() || nat.Low(a) != low {
			t.Errorf("of %v: Len %d, Low %d", a, nat.Len(a), nat.Low(a))
		}
	}
	for n := range 64 * api.MaxLimbs {
		if a := power(n); nat.Len(a) != n+1 || nat.Low(a) != n {
			t.Fatalf("of 2^%d: Len %d, Low %d", n, nat.Len(a), nat.Low(a))
		}
	}
	for _, b := range bad {
		if nat.Len(b) != 0 || nat.Low(b) != -1 {
			t.Errorf("of %v: Len %d, Low %d", b, nat.Len(b), nat.Low(b))
		}
	}
}

func TestAdd(t *testing.T) {
	pairs(func(a, b []uint64) {
		got, code := nat.Add(a, b)
		check(t, "Add", got, code, new(big.Int).Add(toBig(a), toBig(b)))
	})
	most := repeated(api.MaxLimbs, full)
	if s, code := nat.Add(most, []uint64{1}); code != api.ErrLimb || len(s) != 0 {
		t.Error("one more than the greatest:", s, code)
	}
	most[0]--
	if s, code := nat.Add([]uint64{1}, most); code != api.OK || !slices.Equal(s, repeated(api.MaxLimbs, full)) {
		t.Error("the greatest:", s, code)
	}
}

func TestSub(t *testing.T) {
	pairs(func(a, b []uint64) {
		got, code := nat.Sub(a, b)
		want := new(big.Int).Sub(toBig(a), toBig(b))
		if want.Sign() >= 0 {
			check(t, "Sub", got, code, want)
		} else if code != api.ErrArg || len(got) != 0 {
			t.Fatalf("Sub(%v, %v): %v, %d; want ErrArg", a, b, got, code)
		}
	})
}

func TestMul(t *testing.T) {
	pairs(func(a, b []uint64) {
		got, code := nat.Mul(a, b)
		check(t, "Mul", got, code, new(big.Int).Mul(toBig(a), toBig(b)))
	})
	// 33 limbs times 32: just so many limbs as may be, or one more.
	if m, code := nat.Mul(power(64*32), power(64*32-1)); code != api.OK || !slices.Equal(m, power(64*64-1)) {
		t.Error("64 limbs:", len(m), code)
	}
	if m, code := nat.Mul(power(64*32), power(64*32)); code != api.ErrLimb || len(m) != 0 {
		t.Error("65 limbs:", len(m), code)
	}
	if m, code := nat.Mul(repeated(api.MaxLimbs, full), nil); code != api.OK || len(m) != 0 {
		t.Error("times 0:", m, code)
	}
}

func TestDiv(t *testing.T) {
	try := func(a, b []uint64) {
		t.Helper()
		q, r, code := nat.Div(a, b)
		if len(b) == 0 {
			if code != api.ErrDomain || len(q) != 0 || len(r) != 0 {
				t.Fatalf("Div(%v, 0): %v, %v, %d; want ErrDomain", a, q, r, code)
			}
			return
		}
		wantQ, wantR := new(big.Int).QuoRem(toBig(a), toBig(b), new(big.Int))
		check(t, "quotient", q, code, wantQ)
		check(t, "rest", r, code, wantR)
	}
	pairs(try)
	pairs(func(a, b []uint64) { // about a whole number of times
		if m, code := nat.Mul(a, b); code == api.OK {
			try(m, b)
			if m, code = nat.Sub(m, []uint64{1}); code == api.OK {
				try(m, b)
			}
		}
	})
	// The first guess of a limb is too great here, by 1 or more, up to the last step.
	for _, x := range [][2][]uint64{
		{{0, 0, 1 << 63, 1<<63 - 1}, {1, 0, 1 << 63}},
		{{3, 0, 1 << 63}, {1, 0, 1 << 61}},
		{{0, full - 1, 1 << 63}, {full, 1 << 63}},
		{{0, 0, 1 << 63, 1<<63 - 1}, {full, 0, 1 << 63}},
		{{0, 0, 0, 1 << 63}, {full, full, 1<<63 - 1}},
		{{full, full, full - 1, 1 << 63}, {full, full, 1 << 63}},
		{{full, full, full, 1 << 63}, {full, 0, 1<<63 + 1}},
	} {
		try(x[0], x[1])
	}
	q, r, code := nat.Div([]uint64{7}, []uint64{2})
	if code != api.OK || !slices.Equal(q, []uint64{3}) || !slices.Equal(r, []uint64{1}) {
		t.Error("the document's example:", q, r, code)
	}
}

func TestShifts(t *testing.T) {
	m := &maker{state: 3}
	shifts := []int{0, 1, 63, 64, 65, 127, 128, 129, 640, 4031, 4032, 4033, 4095, 4096, 4097, 10000}
	for range 200 {
		shifts = append(shifts, int(m.next()%4200))
	}
	for _, a := range samples() {
		for _, n := range shifts {
			up, code := nat.Shl(a, n)
			check(t, "Shl", up, code, new(big.Int).Lsh(toBig(a), uint(n)))
			down, code := nat.Shr(a, n)
			check(t, "Shr", down, code, new(big.Int).Rsh(toBig(a), uint(n)))
		}
		for _, n := range []int{1 << 40, math.MaxInt - 64, math.MaxInt} {
			up, code := nat.Shl(a, n)
			if want := min(len(a), 1) * api.ErrLimb; code != want || len(up) != 0 {
				t.Fatalf("Shl(%v, %d): %v, %d", a, n, up, code)
			}
			if down, code := nat.Shr(a, n); code != api.OK || len(down) != 0 {
				t.Fatalf("Shr(%v, %d): %v, %d", a, n, down, code)
			}
		}
		for _, n := range []int{-1, -64, math.MinInt} {
			if up, code := nat.Shl(a, n); code != api.ErrArg || len(up) != 0 {
				t.Fatalf("Shl(%v, %d): %v, %d", a, n, up, code)
			}
			if down, code := nat.Shr(a, n); code != api.ErrArg || len(down) != 0 {
				t.Fatalf("Shr(%v, %d): %v, %d", a, n, down, code)
			}
		}
	}
}

// TestShlLimit moves the highest bit to the last place that may be, and one further.
func TestShlLimit(t *testing.T) {
	for _, a := range samples() {
		if len(a) == 0 {
			continue
		}
		room := 64*api.MaxLimbs - toBig(a).BitLen()
		up, code := nat.Shl(a, room)
		if code != api.OK || nat.Len(up) != 64*api.MaxLimbs {
			t.Fatalf("Shl(%v, %d): %v, %d", a, room, up, code)
		}
		if up, code = nat.Shl(a, room+1); code != api.ErrLimb || len(up) != 0 {
			t.Fatalf("Shl(%v, %d): %v, %d", a, room+1, up, code)
		}
	}
}

func TestRoot(t *testing.T) {
	try := func(a []uint64) {
		t.Helper()
		got, code := nat.Root(a)
		check(t, "Root", got, code, new(big.Int).Sqrt(toBig(a)))
	}
	for n := range uint64(1000) {
		try(nat.Norm([]uint64{n}))
	}
	m := &maker{state: 4}
	for range 5000 {
		try(m.natural(int(m.next() % 6)))
	}
	for _, a := range samples() {
		try(a)
		square, code := nat.Mul(a, a)
		if code != api.OK || len(a) == 0 {
			continue
		}
		try(square)
		less, _ := nat.Sub(square, []uint64{1})
		try(less)
		if more, code := nat.Add(square, []uint64{1}); code == api.OK {
			try(more)
		}
	}
}

// TestWrong hands over what may not be, beside what may, and beside other things that are wrong.
func TestWrong(t *testing.T) {
	others := append([][]uint64{nil, {1}, {5, 0, 7}, repeated(api.MaxLimbs, full)}, bad...)
	wrong := func(call string, code int, answers ...[]uint64) {
		t.Helper()
		if code != api.ErrArg {
			t.Errorf("%s: %d, want ErrArg", call, code)
		}
		for _, a := range answers {
			if len(a) != 0 {
				t.Errorf("%s: %v beside ErrArg", call, a)
			}
		}
	}
	for _, b := range bad {
		for _, o := range others {
			for _, x := range [][2][]uint64{{b, o}, {o, b}} {
				s, code := nat.Add(x[0], x[1])
				wrong("Add", code, s)
				s, code = nat.Sub(x[0], x[1])
				wrong("Sub", code, s)
				s, code = nat.Mul(x[0], x[1])
				wrong("Mul", code, s)
				q, r, code := nat.Div(x[0], x[1])
				wrong("Div", code, q, r)
			}
		}
		for _, n := range []int{0, 1, 64, 5000, math.MaxInt, -1, math.MinInt} {
			s, code := nat.Shl(b, n)
			wrong("Shl", code, s)
			s, code = nat.Shr(b, n)
			wrong("Shr", code, s)
		}
		s, code := nat.Root(b)
		wrong("Root", code, s)
	}
}

// calls are all calls that answer naturals, as one shape.
func calls() map[string]func(a, b []uint64) [][]uint64 {
	one := func(f func(a, b []uint64) ([]uint64, int)) func(a, b []uint64) [][]uint64 {
		return func(a, b []uint64) [][]uint64 {
			c, _ := f(a, b)
			return [][]uint64{c}
		}
	}
	shift := func(f func(a []uint64, n int) ([]uint64, int)) func(a, b []uint64) [][]uint64 {
		return one(func(a, b []uint64) ([]uint64, int) { return f(a, 64*(len(b)/2)) })
	}
	return map[string]func(a, b []uint64) [][]uint64{
		"Norm": func(a, _ []uint64) [][]uint64 { return [][]uint64{nat.Norm(a)} },
		"Add":  one(nat.Add),
		"Sub":  one(nat.Sub),
		"Mul":  one(nat.Mul),
		"Div": func(a, b []uint64) [][]uint64 {
			q, r, _ := nat.Div(a, b)
			return [][]uint64{q, r}
		},
		"Shl":  shift(nat.Shl),
		"Shr":  shift(nat.Shr),
		"Root": one(func(a, _ []uint64) ([]uint64, int) { return nat.Root(a) }),
	}
}

// TestMemory: what is handed in is not changed, and what is answered is the caller's own.
func TestMemory(t *testing.T) {
	inputs := [][2][]uint64{{nil, nil}, {{5, 0, 7}, nil}, {nil, {3}}, {{9, 0}, {1}}, {{1, 0}, {2, 0}}}
	for _, a := range [][]uint64{{1}, {5, 0, 7}, {full, full}, {1, 2, 3, 4}} {
		for _, b := range [][]uint64{{1}, {3}, {0, 1}, {full, full}, {1, 2, 3, 4, 5}} {
			inputs = append(inputs, [2][]uint64{a, b})
		}
	}
	for name, call := range calls() {
		for _, in := range inputs {
			want := call(in[0], in[1])
			for i := range want {
				a, b := withRoom(in[0]), withRoom(in[1])
				got := call(a, b)
				if changed(a, in[0]) || changed(b, in[1]) {
					t.Fatalf("%s changed %v, %v to %v, %v", name, in[0], in[1], a, b)
				}
				spoil(a)
				spoil(b)
				for j := range got {
					if j != i {
						spoil(got[j])
					}
				}
				if !slices.Equal(got[i], want[i]) {
					t.Fatalf("%s of %v, %v: the answer shares memory", name, in[0], in[1])
				}
			}
		}
	}
}

// withRoom is a, with room behind it that an append would write to.
func withRoom(a []uint64) []uint64 {
	return append(make([]uint64, 0, 8), a...)
}

// changed tells whether what came of withRoom(a) is something else by now.
func changed(got, a []uint64) bool {
	return !slices.Equal(got, a) || !slices.Equal(got[:cap(got)], withRoom(a)[:8])
}

// spoil overwrites a and the room behind it.
func spoil(a []uint64) {
	a = a[:cap(a)]
	for i := range a {
		a[i] = 0xbad
	}
}

// TestSame: an argument may stand in both places.
func TestSame(t *testing.T) {
	for _, a := range samples() {
		z := toBig(a)
		s, code := nat.Add(a, a)
		check(t, "a+a", s, code, new(big.Int).Add(z, z))
		m, code := nat.Mul(a, a)
		check(t, "a*a", m, code, new(big.Int).Mul(z, z))
		d, code := nat.Sub(a, a)
		check(t, "a-a", d, code, new(big.Int))
	}
}

// TestGreat: of 1.3, numbers as great as they need be: exact over many steps up to the greatest that may be, and back.
func TestGreat(t *testing.T) {
	a, want := []uint64{1}, big.NewInt(1)
	steps := 0
	for n := uint64(2); ; n++ {
		m, code := nat.Mul(a, []uint64{n})
		if code == api.ErrLimb {
			break
		}
		want.Mul(want, new(big.Int).SetUint64(n))
		check(t, "a product", m, code, want)
		a = m
		steps++
	}
	if nat.Len(a) < 64*api.MaxLimbs-10 {
		t.Fatal("it ended too early:", nat.Len(a))
	}
	for n := uint64(steps + 1); n > 1; n-- {
		q, r, code := nat.Div(a, []uint64{n})
		if code != api.OK || len(r) != 0 {
			t.Fatal("back again:", n, r, code)
		}
		a = q
	}
	if !slices.Equal(a, []uint64{1}) {
		t.Error("there and back:", a)
	}
}
