package flow_test

import (
	"math"
	"math/rand/v2"
	"slices"
	"testing"

	"sluiceway/api"
	"sluiceway/ival"
)

// limbs are all lists of limbs of these.
func limbs(these []api.Ival) [][]uint64 {
	var ms [][]uint64
	for _, a := range these {
		ms = append(ms, a.Lo.M, a.Hi.M)
	}
	return ms
}

// roomy is a copy of d, with room behind its limbs that an append would write to.
func roomy(d api.Dyad) api.Dyad {
	d.M = append(make([]uint64, 0, len(d.M)+8), d.M...)
	return d
}

// roomies are copies of these, with room behind them too.
func roomies(these []api.Ival) []api.Ival {
	all := make([]api.Ival, 0, len(these)+8)
	for _, a := range these {
		all = append(all, from(roomy(a.Lo), roomy(a.Hi)))
	}
	return all
}

// withRoom is a copy of all that is asked.
func (q posed) withRoom() posed {
	lines := append(make([]api.Line, 0, len(q.f.Lines)+8), q.f.Lines...)
	for i := range lines {
		lines[i].K = roomies([]api.Ival{lines[i].K})[0]
	}
	q.f = api.Tape{Lines: lines, Outs: append(make([]int, 0, len(q.f.Outs)+8), q.f.Outs...)}
	q.x, q.p = roomies(q.x), roomies(q.p)
	q.from, q.to, q.h = roomy(q.from), roomy(q.to), roomy(q.h)
	return q
}

// spans are all intervals of what is asked, with those in the room behind them.
func (q posed) spans() []api.Ival {
	all := slices.Concat(q.x[:cap(q.x)], q.p[:cap(q.p)], []api.Ival{from(q.from, q.to), from(q.h, q.h)})
	for _, l := range q.f.Lines[:cap(q.f.Lines)] {
		all = append(all, l.K)
	}
	return all
}

// shot is all that the memory of what is asked holds, with the room behind each list.
type shot struct {
	spans []api.Ival
	limbs [][]uint64
	parts []int
}

// taken is what it holds now.
func (q posed) taken() shot {
	now := shot{spans: q.spans(), parts: slices.Clone(q.f.Outs[:cap(q.f.Outs)])}
	for _, m := range limbs(now.spans) {
		now.limbs = append(now.limbs, slices.Clone(m[:cap(m)]))
	}
	for _, l := range q.f.Lines[:cap(q.f.Lines)] {
		now.parts = append(now.parts, l.Op, l.A, l.B)
	}
	return now
}

// same tells whether two shots are the same.
func (a shot) same(b shot) bool {
	return slices.EqualFunc(a.spans, b.spans, ival.Same) && slices.EqualFunc(a.limbs, b.limbs, slices.Equal) && slices.Equal(a.parts, b.parts)
}

// spoil overwrites a list and the room behind it.
func spoil[T any](list []T, with T) {
	list = list[:cap(list)]
	for i := range list {
		list[i] = with
	}
}

// TestMemory: what is handed in is not changed, and what is answered is the caller's own, each list of it by itself.
func TestMemory(t *testing.T) {
	t.Parallel()
	r := maker(8)
	count := 0
	for i := range 24 {
		q := asked(r)
		if i%4 == 0 {
			q = tame(r)
			q.h = of(1, -4)
		}
		for _, ask := range []func(q posed) ([]api.Ival, int){posed.atEnd, posed.onWay} {
			want, code := ask(q)
			given := q.withRoom()
			before := given.taken()
			got, again := ask(given)
			if code != again || !slices.EqualFunc(got, want, ival.Same) {
				t.Fatalf("of %v: %v, %d, then %v, %d", q, want, code, got, again)
			}
			if !given.taken().same(before) {
				t.Fatalf("%v is changed", q)
			}
			for _, m := range limbs(given.spans()) {
				spoil(m, 0xbad)
			}
			if !slices.EqualFunc(got, want, ival.Same) {
				t.Fatalf("of %v: the answer shares memory", q)
			}
			if code == api.OK {
				count++
			}
			apart(t, got, r)
		}
	}
	if count < 20 {
		t.Errorf("only %d answers", count)
	}
}

// apart spoils the lists of an answer one by one: the others stay as they are.
func apart(t *testing.T, answer []api.Ival, r *rand.Rand) {
	t.Helper()
	ms := limbs(answer)
	r.Shuffle(len(ms), func(i, j int) { ms[i], ms[j] = ms[j], ms[i] })
	for i, m := range ms {
		var rest [][]uint64
		for _, o := range ms[i+1:] {
			rest = append(rest, slices.Clone(o))
		}
		spoil(m, 0xbad)
		if !slices.EqualFunc(ms[i+1:], rest, slices.Equal) {
			t.Fatal("two lists of one answer share limbs")
		}
	}
}

// TestLists: what one list of limbs stands for more than once is answered in lists of their own.
func TestLists(t *testing.T) {
	t.Parallel()
	same := only(5, -3)
	q := posed{sys(1, number(same), par(0)), []api.Ival{same, same}, []api.Ival{same, same}, same.Lo, same.Lo, same.Lo, 60}
	q.f.Outs = []int{0, 0}
	end, way, code := q.both(t)
	if code != api.OK {
		t.Fatal(code)
	}
	apart(t, end, maker(9))
	apart(t, way, maker(9))
	if m := same.Lo.M; len(m) != 1 || m[0] != 5 {
		t.Error("a list is shared", m)
	}
}

// wilds are any intervals.
func wilds(r *rand.Rand, n int) []api.Ival {
	var all []api.Ival
	for range n {
		d := wildDyad(r)
		a, code := ival.Make(d, wildDyad(r))
		if code != api.OK {
			a = from(d, d)
		}
		if r.IntN(3) > 0 {
			a = near(r)
		}
		all = append(all, a)
	}
	return all
}

// TestWild: of any arguments whatever each call ends and none panics, and To and Over have the same code, and boxes that may be.
func TestWild(t *testing.T) {
	t.Parallel()
	for seed := range uint64(4) {
		t.Run("", func(t *testing.T) {
			t.Parallel()
			r, codes := maker(40+seed), codesOf{}
			for range 150 {
				q := asked(r)
				q.x, q.p = wilds(r, len(q.x)), wilds(r, 2)
				for i, l := range q.f.Lines {
					if l.Op == api.OConst {
						q.f.Lines[i].K = wilds(r, 1)[0]
					}
				}
				switch r.IntN(6) {
				case 0:
					q.from, q.to, q.h = wildDyad(r), wildDyad(r), wildDyad(r)
				case 1:
					q.from, q.h = wildDyad(r), wildDyad(r)
					q.to, q.h.Neg = q.from, false
				case 2:
					q.bits = []int{7, 8, 200, 201, 0, -1, math.MaxInt, math.MinInt}[r.IntN(8)]
				case 3:
					q.h = of(1, maxExp)
				}
				_, _, code := q.both(t)
				codes[code]++
				if code != api.OK && !slices.Contains([]int{api.ErrArg, api.ErrLimb, api.ErrExp, api.ErrDomain, api.ErrStep}, code) {
					t.Fatalf("of %v: %d", q, code)
				}
			}
			codes.ask(t, 1, api.OK, api.ErrArg, api.ErrLimb, api.ErrExp, api.ErrDomain)
		})
	}
}
