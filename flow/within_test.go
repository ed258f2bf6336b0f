package flow

import (
	"math/big"
	"math/rand/v2"
	"slices"
	"testing"

	"sluiceway/api"
	"sluiceway/box"
	"sluiceway/dyad"
	"sluiceway/fault"
	"sluiceway/reckon"
	"sluiceway/tape"
)

// digits is how many bits floats have here.
const digits = 500

// num is n times 2^e.
func num(n int64, e int) api.Dyad {
	return fault.Must(dyad.Of(n, e))
}

// to is from a to b, both times 2^e.
func to(a, b int64, e int) api.Ival {
	return api.Ival{Lo: num(a, e), Hi: num(b, e)}
}

// worth is d as a float.
func worth(d api.Dyad) *big.Float {
	z := new(big.Int)
	for _, x := range slices.Backward(d.M) {
		z.Lsh(z, 64).Or(z, new(big.Int).SetUint64(x))
	}
	if d.Neg {
		z.Neg(z)
	}
	f := new(big.Float).SetPrec(digits).SetInt(z)
	return f.SetMantExp(f, d.E)
}

// bent is a system whose rates change with the time and the place, the more the greater these numbers are.
func bent(r *rand.Rand) *system {
	k := func() api.Line {
		n := r.Int64N(64) - 32
		return api.Line{Op: api.OConst, K: to(n, n+r.Int64N(4), -3)}
	}
	lines := []api.Line{{Op: api.OState}, {Op: api.OState, A: 1}, {Op: api.OTime}, k(), k(), {Op: api.OMul, A: 2, B: 3}, {Op: api.OMul, A: 0, B: 4}, {Op: api.OAdd, A: 5, B: 6}, {Op: api.OMul, A: 0, B: 1}, {Op: api.OMul, A: 7, B: 1}, k(), {Op: api.OAdd, A: 8, B: 10}}
	return &system{f: api.Tape{Lines: lines, Outs: []int{9, 11}}, from: num(-2, 0), to: num(2, 0), bits: 60}
}

// TestTrap: no rate on a trap, at any time of a step, leads out of it.
func TestTrap(t *testing.T) {
	r := rand.New(rand.NewPCG(1, 0))
	count := 0
	for range 400 {
		s := bent(r)
		x := []api.Ival{to(r.Int64N(9)-4, 5, -2), to(-3, r.Int64N(9)-3, -3)}
		begin := r.Int64N(48) - 32
		size := num(1, -r.IntN(9))
		l := leg{begin: reckon.Only(num(begin, -4)), long: reckon.Only(size), within: api.Ival{Hi: size}}
		l.times = api.Ival{Lo: l.begin.Lo, Hi: fault.Must(dyad.Add(l.begin.Lo, size))}
		trap, code := fault.Told(func() []api.Ival { return s.trap(l, x) })
		if code != api.OK {
			continue
		}
		count++
		if !box.Within(x, trap) {
			t.Fatalf("%v does not hold %v", trap, x)
		}
		rates := fault.Must(tape.Eval(s.f, api.Env{T: l.times, X: trap}, s.bits))
		for k, a := range rates {
			lead := api.Ival{Lo: fault.Must(dyad.Add(x[k].Lo, fault.Must(dyad.Mul(a.Lo, size)))), Hi: fault.Must(dyad.Add(x[k].Hi, fault.Must(dyad.Mul(a.Hi, size))))}
			if !box.Within([]api.Ival{lead}, trap[k:k+1]) {
				t.Fatalf("from %v rates of %v lead to %v, out of %v", x[k], a, lead, trap[k])
			}
		}
	}
	if count < 200 {
		t.Errorf("only %d traps", count)
	}
}

// exponential is e to the power of n/2^8, by its series.
func exponential(n int64) *big.Float {
	x := new(big.Float).SetPrec(digits).SetInt64(n)
	x.SetMantExp(x, -8)
	term, all := new(big.Float).SetPrec(digits).SetInt64(1), new(big.Float).SetPrec(digits).SetInt64(1)
	for k := int64(1); k < 150; k++ {
		term.Mul(term, x).Quo(term, new(big.Float).SetPrec(digits).SetInt64(k))
		all.Add(all, term)
	}
	return all
}

// TestMoves: by one derivative a solution moves with its beginning as e to its power does; the sum is held, its rest too, in steps of up to 1 divided by it, and no greater ones.
func TestMoves(t *testing.T) {
	s := &system{bits: 200}
	for n := int64(-300); n <= 300; n++ {
		for _, e := range []int{-3, 0, 7} {
			l := leg{long: reckon.Only(num(1, -8-e))}
			held, code := fault.Told(func() api.Ival {
				return reckon.Sum(s.moves(l, [][]api.Ival{{to(n, n, e)}})[0][0], l.long, s.bits)
			})
			if fits := -256 <= n && n <= 256; fits != (code == api.OK) {
				t.Fatal(n, e, code)
			}
			if e := exponential(n); code == api.OK && (worth(held.Lo).Cmp(e) > 0 || worth(held.Hi).Cmp(e) < 0) {
				t.Fatalf("%d: %v does not hold %v", n, held, e)
			}
		}
	}
	// Of an interval those of both ends; of two rates that stand for each other, those of the sum and of the difference.
	l := leg{long: reckon.Only(num(1, -8))}
	wide := reckon.Sum(s.moves(l, [][]api.Ival{{to(-200, 100, 0)}})[0][0], l.long, s.bits)
	if worth(wide.Lo).Cmp(exponential(-200)) > 0 || worth(wide.Hi).Cmp(exponential(100)) < 0 {
		t.Error(wide)
	}
	cross := s.moves(l, [][]api.Ival{{{}, to(200, 200, 0)}, {to(200, 200, 0), {}}})
	for i, row := range cross {
		for j, c := range row {
			held, sum := reckon.Sum(c, l.long, s.bits), exponential(200)
			if sum.Add(sum, exponential(-200)); i != j {
				sum.Sub(exponential(200), exponential(-200))
			}
			sum.SetMantExp(sum, -1)
			if worth(held.Lo).Cmp(sum) > 0 || worth(held.Hi).Cmp(sum) < 0 {
				t.Errorf("%d %d: %v does not hold %v", i, j, held, sum)
			}
		}
	}
}
