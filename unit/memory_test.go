package unit_test

import (
	"math"
	"math/rand/v2"
	"slices"
	"testing"

	"sluiceway/api"
	"sluiceway/ival"
	"sluiceway/tube"
)

// limbs are all lists of limbs of intervals.
func limbs(these []api.Ival) [][]uint64 {
	var ms [][]uint64
	for _, a := range these {
		ms = append(ms, a.Lo.M, a.Hi.M)
	}
	return ms
}

// limbsOf are all lists of limbs of tubes.
func limbsOf(these []api.Tube) [][]uint64 {
	var ms [][]uint64
	for _, u := range these {
		ms = append(ms, limbs(u.V)...)
		for _, d := range u.At {
			ms = append(ms, d.M)
		}
	}
	return ms
}

// roomy is a copy of d, with room behind its limbs that an append would write to.
func roomy(d api.Dyad) api.Dyad {
	d.M = append(make([]uint64, 0, len(d.M)+8), d.M...)
	return d
}

// roomies are copies of these, with room behind them too.
func roomies(these []api.Ival) []api.Ival {
	all := make([]api.Ival, 0, len(these)+8)
	for _, a := range these {
		all = append(all, from(roomy(a.Lo), roomy(a.Hi)))
	}
	return all
}

// roomyTape is a copy of a tape, with room behind all of its lists.
func roomyTape(t api.Tape) api.Tape {
	lines := append(make([]api.Line, 0, len(t.Lines)+8), t.Lines...)
	for i := range lines {
		lines[i].K = roomies(row(lines[i].K))[0]
	}
	return api.Tape{Lines: lines, Outs: append(make([]int, 0, len(t.Outs)+8), t.Outs...)}
}

// withRoom is a copy of all that is asked.
func (q posed) withRoom() posed {
	q.f, q.g, q.x, q.p = roomyTape(q.f), roomyTape(q.g), roomies(q.x), roomies(q.p)
	q.t, q.h = roomy(q.t), roomy(q.h)
	us := make([]api.Tube, 0, len(q.u)+8)
	for _, u := range q.u {
		at := make([]api.Dyad, 0, len(u.At)+8)
		for _, d := range u.At {
			at = append(at, roomy(d))
		}
		us = append(us, api.Tube{At: at, V: roomies(u.V)})
	}
	q.u = us
	return q
}

// spans are all numbers of what is asked, as intervals, with those in the room behind them.
func (q posed) spans() []api.Ival {
	all := slices.Concat(q.x[:cap(q.x)], q.p[:cap(q.p)], row(from(q.t, q.h)))
	for _, u := range q.u[:cap(q.u)] {
		all = append(all, u.V[:cap(u.V)]...)
		for _, d := range u.At[:cap(u.At)] {
			all = append(all, from(d, d))
		}
	}
	for _, t := range row(q.f, q.g) {
		for _, l := range t.Lines[:cap(t.Lines)] {
			all = append(all, l.K)
		}
	}
	return all
}

// shot is all that the memory of what is asked holds, with the room behind each list.
type shot struct {
	spans []api.Ival
	limbs [][]uint64
	parts []int
}

// taken is what it holds now.
func (q posed) taken() shot {
	now := shot{spans: q.spans()}
	for _, m := range limbs(now.spans) {
		now.limbs = append(now.limbs, slices.Clone(m[:cap(m)]))
	}
	for _, t := range row(q.f, q.g) {
		now.parts = append(now.parts, t.Outs[:cap(t.Outs)]...)
		for _, l := range t.Lines[:cap(t.Lines)] {
			now.parts = append(now.parts, l.Op, l.A, l.B)
		}
	}
	for _, u := range q.u[:cap(q.u)] {
		now.parts = append(now.parts, len(u.V), len(u.At))
	}
	return now
}

// same tells whether two shots are the same.
func (a shot) same(b shot) bool {
	return slices.EqualFunc(a.spans, b.spans, ival.Same) && slices.EqualFunc(a.limbs, b.limbs, slices.Equal) && slices.Equal(a.parts, b.parts)
}

// spoil overwrites a list and the room behind it.
func spoil[T any](list []T, with T) {
	list = list[:cap(list)]
	for i := range list {
		list[i] = with
	}
}

// spoil overwrites all that is asked.
func (q posed) spoil() {
	for _, m := range limbs(q.spans()) {
		spoil(m, 0xbad)
	}
	for _, u := range q.u {
		spoil(u.V, span(-7, 7, 7))
		spoil(u.At, of(7, 7))
	}
	for _, t := range row(q.f, q.g) {
		spoil(t.Lines, clock())
		spoil(t.Outs, 0)
	}
	spoil(q.x, span(-7, 7, 7))
	spoil(q.p, span(-7, 7, 7))
	spoil(q.u, api.Tube{})
}

// TestMemory: what is handed in is not changed, and what is answered is the caller's own, each list of it by itself.
func TestMemory(t *testing.T) {
	t.Parallel()
	r := maker(8)
	count := 0
	for i := range 40 {
		q := asked(r)
		if i%3 == 0 {
			q = tame(r)
		}
		want, wants, code := q.ask()
		given := q.withRoom()
		before := given.taken()
		got, gots, again := given.ask()
		if !given.taken().same(before) {
			t.Fatalf("%v is changed", q)
		}
		given.spoil()
		if code != again || !slices.EqualFunc(got, want, ival.Same) || !slices.EqualFunc(gots, wants, tube.Same) {
			t.Fatalf("of %v: %v, %v, %d, then %v, %v, %d", q, want, wants, code, got, gots, again)
		}
		if code == api.OK {
			count++
		}
		apart(t, got, gots, r)
	}
	if count < 20 {
		t.Errorf("only %d answers", count)
	}
}

// apart spoils the lists of an answer one by one: the others stay as they are.
func apart(t *testing.T, end []api.Ival, outs []api.Tube, r *rand.Rand) {
	t.Helper()
	ms := slices.Concat(limbs(end), limbsOf(outs))
	r.Shuffle(len(ms), func(i, j int) { ms[i], ms[j] = ms[j], ms[i] })
	for i, m := range ms {
		var rest [][]uint64
		for _, o := range ms[i+1:] {
			rest = append(rest, slices.Clone(o))
		}
		spoil(m, 0xbad)
		if !slices.EqualFunc(ms[i+1:], rest, slices.Equal) {
			t.Fatal("two lists of one answer share limbs")
		}
	}
	for i, y := range outs {
		spoil(y.At, of(7, 7))
		spoil(y.V, span(-7, 7, 7))
		for _, z := range outs[i+1:] {
			if slices.ContainsFunc(z.At, func(d api.Dyad) bool { return d.E == 7 }) || slices.ContainsFunc(z.V, func(a api.Ival) bool { return a.Hi.E == 7 }) {
				t.Fatal("two tubes of one answer share cells")
			}
		}
	}
}

// TestLists: what one list of limbs stands for more than once is answered in lists of their own.
func TestLists(t *testing.T) {
	t.Parallel()
	same := only(5, -3)
	u := cells(same.Lo, same.Lo, same)
	q := posed{f: sys(1, number(same), par(0), in(0)), g: sys(3, number(same), in(0), state(1)), x: row(same, same), p: row(same, same), u: row(u, u), t: same.Lo, h: same.Lo, bits: 60}
	q.f.Outs = []int{0, 0}
	end, outs, code := q.run(t)
	if code != api.OK {
		t.Fatal(code)
	}
	apart(t, end, outs, maker(9))
	if m := same.Lo.M; len(m) != 1 || m[0] != 5 {
		t.Error("a list is shared", m)
	}
	// Of what is known ahead alone: each cell has it by itself.
	high := edges()["a high power"]
	end, outs, code = high.run(t)
	if code != api.OK {
		t.Fatal(code)
	}
	apart(t, end, outs, maker(10))
}

// wildDyad is any Dyad: of few limbs or of as many as there may be, of any size.
func wildDyad(r *rand.Rand) api.Dyad {
	m := make([]uint64, []int{1, 1, 2, api.MaxLimbs}[r.IntN(4)])
	for i := range m {
		m[i] = []uint64{r.Uint64(), math.MaxUint64}[r.IntN(2)]
	}
	m[0] |= 1
	m[len(m)-1] |= 1
	e := []int{0, -maxExp, maxExp, -64 * len(m), r.IntN(9000) - 4500, r.IntN(2*maxExp) - maxExp}[r.IntN(6)]
	if r.IntN(9) == 0 {
		return api.Dyad{}
	}
	return api.Dyad{Neg: r.IntN(2) == 0, M: m, E: e}
}

// wilds are any intervals.
func wilds(r *rand.Rand, n int) []api.Ival {
	var all []api.Ival
	for range n {
		d := wildDyad(r)
		a, code := ival.Make(d, wildDyad(r))
		if code != api.OK {
			a = from(d, d)
		}
		if r.IntN(3) > 0 {
			a = near(r)
		}
		all = append(all, a)
	}
	return all
}

// TestWild: of any arguments whatever each call ends and none panics; it has tubes and boxes that may be, or an error that there is.
func TestWild(t *testing.T) {
	t.Parallel()
	for seed := range uint64(4) {
		t.Run("", func(t *testing.T) {
			t.Parallel()
			r, codes := maker(80+seed), codesOf{}
			for range 200 {
				q := asked(r)
				q.x, q.p = wilds(r, len(q.x)), wilds(r, 2)
				for _, u := range q.u {
					u.V[r.IntN(len(u.V))] = wilds(r, 1)[0]
				}
				for i, l := range q.f.Lines {
					if l.Op == api.OConst {
						q.f.Lines[i].K = wilds(r, 1)[0]
					}
				}
				switch r.IntN(8) {
				case 0:
					q.t, q.h = wildDyad(r), wildDyad(r)
				case 1:
					d := wildDyad(r)
					d.Neg = false
					q.h = d
				case 2:
					q.bits = []int{7, 8, 200, 201, 0, -1, math.MaxInt, math.MinInt}[r.IntN(8)]
				case 3:
					q.u = nil
				}
				_, _, code := q.run(t)
				codes[code]++
				if code != api.OK && !slices.Contains([]int{api.ErrArg, api.ErrLimb, api.ErrExp, api.ErrDomain, api.ErrStep}, code) {
					t.Fatalf("of %v: %d", q, code)
				}
			}
			codes.ask(t, 1, api.OK, api.ErrArg, api.ErrLimb, api.ErrDomain)
		})
	}
}
