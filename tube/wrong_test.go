package tube_test

import (
	"math"
	"math/rand/v2"
	"slices"
	"testing"

	"sluiceway/api"
	"sluiceway/tube"
)

// badDyads are Dyads that may not be, each for one reason.
var badDyads = []api.Dyad{
	{Neg: true},
	{E: 1},
	{M: []uint64{}, E: -1},
	{M: []uint64{0}},
	{M: []uint64{6}},
	{M: []uint64{0, 1}, Neg: true},
	{M: []uint64{1, 0}},
	{M: slices.Repeat([]uint64{1}, api.MaxLimbs+1)},
	{M: []uint64{1}, E: maxExp + 1},
	{M: []uint64{1}, E: -maxExp - 1, Neg: true},
	{M: []uint64{3}, E: math.MinInt},
	{M: []uint64{3}, E: math.MaxInt},
}

// badIvals are intervals that may not be: for an end, or for their order.
func badIvals() []api.Ival {
	var all []api.Ival
	for _, d := range badDyads {
		all = append(all, api.Ival{Lo: d, Hi: d}, api.Ival{Lo: of(-9, 0), Hi: d}, api.Ival{Lo: d, Hi: of(9, 0)})
	}
	return append(all, span(3, 1, 0), span(1, 0, -maxExp), span(0, -1, -maxExp), api.Ival{Lo: of(1, maxBits), Hi: ones(maxBits)})
}

// badTubes are tubes that may not be: for how many parts they have, a value, a time, or the order of times.
func badTubes() []api.Tube {
	v := span(1, 2, 0)
	right := even(4, v)
	all := []api.Tube{{}, {At: []api.Dyad{}, V: []api.Ival{}}, {At: times(0, 0)}, {V: row(v)}, {At: times(0, 0, 1)}, {At: right.At}, {At: right.At, V: right.V[:3]}, {At: right.At[:4], V: right.V}, {At: right.At[:3], V: right.V}, even(api.MaxCells+1, v), {At: even(api.MaxCells, v).At, V: even(api.MaxCells+1, v).V}, {At: even(api.MaxCells+2, v).At, V: even(api.MaxCells, v).V}}
	for _, wrong := range badIvals() {
		for k := range right.V {
			a := api.Tube{At: right.At, V: slices.Clone(right.V)}
			a.V[k] = wrong
			all = append(all, a)
		}
	}
	for _, wrong := range badDyads {
		for k := range right.At {
			a := api.Tube{At: slices.Clone(right.At), V: right.V}
			a.At[k] = wrong
			all = append(all, a)
		}
	}
	for k := range right.At[1:] {
		a := api.Tube{At: slices.Clone(right.At), V: right.V}
		// The same time as that ahead, and one below it.
		a.At[k+1] = a.At[k]
		b := api.Tube{At: slices.Clone(right.At), V: right.V}
		b.At[k], b.At[k+1] = b.At[k+1], b.At[k]
		all = append(all, a, b)
	}
	return append(all, api.Tube{At: row(of(1, maxBits), ones(maxBits)), V: row(v)}, api.Tube{At: row(of(-1, -maxExp), of(-1, maxExp)), V: row(v)})
}

// refused holds what is answered to ErrArg and nothing beside it.
func refused(t *testing.T, name string, got api.Tube, code int, of ...any) {
	t.Helper()
	if code != api.ErrArg || !equals(got, api.Tube{}) {
		t.Errorf("%s of %v: %v, %d", name, of, got, code)
	}
}

// refusedValue likewise.
func refusedValue(t *testing.T, name string, got api.Ival, code int, of ...any) {
	t.Helper()
	if code != api.ErrArg || !equal(got, api.Ival{}) {
		t.Errorf("%s of %v: %v, %d", name, of, got, code)
	}
}

// TestWrongTubes hands over tubes that may not be, by themselves and beside others.
func TestWrongTubes(t *testing.T) {
	right := even(4, span(1, 2, 0))
	wide := even(4, api.Ival{Lo: of(-1, maxExp), Hi: of(3, maxExp)})
	for _, a := range badTubes() {
		if tube.May(a) {
			t.Errorf("May(%v) is true", a)
		}
		for _, b := range row(a, right, wide) {
			if tube.Within(a, b) || tube.Inside(a, b) || tube.Within(b, a) || tube.Inside(b, a) {
				t.Errorf("%v within, or inside, %v", a, b)
			}
			got, code := tube.Join(a, b)
			refused(t, "Join", got, code, a, b)
			got, code = tube.Join(b, a)
			refused(t, "Join", got, code, b, a)
		}
		for _, b := range row(moved(right, -4), moved(right, 4)) {
			got, code := tube.Join(a, b)
			refused(t, "Join", got, code, a, b)
			got, code = tube.Join(b, a)
			refused(t, "Join", got, code, b, a)
		}
		if w, code := tube.Width(a); code != api.ErrArg || !alike(w, api.Dyad{}) {
			t.Errorf("Width(%v): %v, %d", a, w, code)
		}
		got, code := tube.Halve(a)
		refused(t, "Halve", got, code, a)
		// Outside too it is no tube first of all.
		for _, x := range [][2]api.Dyad{{of(0, 0), of(4, 0)}, {of(1, 0), of(2, 0)}, {of(-1, 0), of(9, 0)}, {of(1, -1), of(1, -1)}, {of(2, 0), of(1, 0)}} {
			got, code := tube.Cut(a, x[0], x[1])
			refused(t, "Cut", got, code, a, x)
			v, code := tube.Over(a, x[0], x[1])
			refusedValue(t, "Over", v, code, a, x)
			v, code = tube.At(a, x[0])
			refusedValue(t, "At", v, code, a, x)
		}
	}
}

// TestWrongTimes hands over times that may not be, beside some in a tube and some outside.
func TestWrongTimes(t *testing.T) {
	a := even(4, span(1, 2, 0))
	for _, d := range badDyads {
		v, code := tube.At(a, d)
		refusedValue(t, "At", v, code, d)
		for _, other := range row(d, of(0, 0), of(1, -1), of(4, 0), of(-1, 0), of(5, 0), of(1, maxExp)) {
			for _, x := range [][2]api.Dyad{{d, other}, {other, d}} {
				v, code := tube.Over(a, x[0], x[1])
				refusedValue(t, "Over", v, code, x)
				got, code := tube.Cut(a, x[0], x[1])
				refused(t, "Cut", got, code, x)
				got, code = tube.Make(x[0], x[1], span(1, 2, 0))
				refused(t, "Make", got, code, x)
			}
		}
	}
	for _, v := range badIvals() {
		got, code := tube.Make(of(0, 0), of(1, 0), v)
		refused(t, "Make", got, code, v)
	}
	// From above to is told, outside too.
	for _, x := range [][2]int64{{2, 1}, {9, 8}, {-1, -2}, {5, -1}} {
		v, code := tube.Over(a, of(x[0], 0), of(x[1], 0))
		refusedValue(t, "Over", v, code, x)
		got, code := tube.Cut(a, of(x[0], 0), of(x[1], 0))
		refused(t, "Cut", got, code, x)
	}
}

// listsOf are all lists of limbs of a tube.
func listsOf(t api.Tube) [][]uint64 {
	var lists [][]uint64
	for _, d := range t.At {
		lists = append(lists, d.M)
	}
	for _, v := range t.V {
		lists = append(lists, v.Lo.M, v.Hi.M)
	}
	return lists
}

// roomy is a copy of these limbs, with room behind them that an append would write to.
func roomy(d api.Dyad) api.Dyad {
	d.M = append(make([]uint64, 0, len(d.M)+8), d.M...)
	return d
}

// withRoom is a copy of t, with room behind all of its lists.
func withRoom(t api.Tube) api.Tube {
	all := api.Tube{At: make([]api.Dyad, 0, len(t.At)+8), V: make([]api.Ival, 0, len(t.V)+8)}
	for _, d := range t.At {
		all.At = append(all.At, roomy(d))
	}
	for _, v := range t.V {
		all.V = append(all.V, api.Ival{Lo: roomy(v.Lo), Hi: roomy(v.Hi)})
	}
	return all
}

// changed tells whether what came of withRoom(t) is something else by now, with the room behind it.
func changed(got, t api.Tube) bool {
	want := withRoom(t)
	if !equals(api.Tube{At: got.At[:cap(got.At)], V: got.V[:cap(got.V)]}, api.Tube{At: want.At[:cap(want.At)], V: want.V[:cap(want.V)]}) {
		return true
	}
	return !slices.EqualFunc(listsOf(got), listsOf(want), func(a, b []uint64) bool { return slices.Equal(a[:cap(a)], b[:cap(b)]) })
}

// spoil overwrites a list and the room behind it.
func spoil[T any](list []T, with T) {
	list = list[:cap(list)]
	for i := range list {
		list[i] = with
	}
}

// calls are all calls, of two tubes and two times, their answers as tubes.
func calls() map[string]func(a, b api.Tube, from, to api.Dyad) api.Tube {
	first := func(t api.Tube, _ int) api.Tube { return t }
	value := func(v api.Ival, _ int) api.Tube { return api.Tube{V: row(v)} }
	return map[string]func(a, b api.Tube, from, to api.Dyad) api.Tube{
		"Make": func(a, _ api.Tube, from, to api.Dyad) api.Tube {
			if len(a.V) == 0 {
				return api.Tube{}
			}
			return first(tube.Make(from, to, a.V[0]))
		},
		"At":    func(a, _ api.Tube, from, _ api.Dyad) api.Tube { return value(tube.At(a, from)) },
		"Over":  func(a, _ api.Tube, from, to api.Dyad) api.Tube { return value(tube.Over(a, from, to)) },
		"Join":  func(a, b api.Tube, _, _ api.Dyad) api.Tube { return first(tube.Join(a, b)) },
		"Halve": func(a, _ api.Tube, _, _ api.Dyad) api.Tube { return first(tube.Halve(a)) },
		"Cut":   func(a, _ api.Tube, from, to api.Dyad) api.Tube { return first(tube.Cut(a, from, to)) },
		"Width": func(a, _ api.Tube, _, _ api.Dyad) api.Tube {
			w, _ := tube.Width(a)
			return api.Tube{At: row(w)}
		},
		"asks": func(a, b api.Tube, _, _ api.Dyad) api.Tube {
			tube.May(a)
			tube.Within(a, b)
			tube.Inside(a, b)
			tube.Same(a, b)
			return api.Tube{}
		},
	}
}

// sharing is a tube whose parts all have the same limbs, where they are the same.
func sharing() api.Tube {
	nine, ten := of(9, 0), of(11, 0)
	v := api.Ival{Lo: nine, Hi: nine}
	return api.Tube{At: row(of(-1, 0), nine, ten), V: row(v, v)}
}

// TestMemory: what is handed in is not changed, and what is answered is the caller's own, each list of it by itself.
func TestMemory(t *testing.T) {
	r := maker(30)
	joined := even(3, span(1, 3, 0))
	tubes := row(api.Tube{}, even(1, span(-3, 5, 0)), even(5, span(7, 7, 0)), joined, moved(joined, 3), sharing(), far(r), far(r), badTubes()[20])
	ends := row(of(0, 0), of(1, 0), of(3, -1), of(3, 0), of(9, 0), of(-5, maxExp), api.Dyad{M: []uint64{4}})
	for name, call := range calls() {
		for _, a := range tubes {
			for _, b := range tubes {
				for i, from := range ends {
					to := ends[(i+1+r.IntN(3))%len(ends)]
					want := call(a, b, from, to)
					x, y, u, w := withRoom(a), withRoom(b), roomy(from), roomy(to)
					got := call(x, y, u, w)
					if changed(x, a) || changed(y, b) || !alike(u, from) || !alike(w, to) || slices.Max(u.M[len(u.M):cap(u.M)]) > 0 || slices.Max(w.M[len(w.M):cap(w.M)]) > 0 {
						t.Fatalf("%s changed %v, %v, %v, %v", name, a, b, from, to)
					}
					for _, list := range slices.Concat(listsOf(x), listsOf(y), row(u.M, w.M)) {
						spoil(list, 0xbad)
					}
					for _, z := range row(x, y) {
						spoil(z.At, of(-7, 7))
						spoil(z.V, span(7, 8, 9))
					}
					if !equals(got, want) {
						t.Fatalf("%s of %v, %v, %v, %v: the answer shares memory", name, a, b, from, to)
					}
					ownLists(t, name, got, r)
				}
			}
		}
	}
}

// ownLists spoils list after list of an answer: the others must stay as they are.
func ownLists(t *testing.T, name string, got api.Tube, r *rand.Rand) {
	t.Helper()
	lists := listsOf(got)
	r.Shuffle(len(lists), func(i, j int) { lists[i], lists[j] = lists[j], lists[i] })
	for i, list := range lists {
		var rest [][]uint64
		for _, other := range lists[i+1:] {
			rest = append(rest, slices.Clone(other))
		}
		spoil(list, 0xbad)
		if !slices.EqualFunc(lists[i+1:], rest, slices.Equal) {
			t.Fatalf("%s: two lists of one answer share limbs", name)
		}
	}
}

// TestShared: what one list of limbs stands for more than once is answered in lists of their own.
func TestShared(t *testing.T) {
	r := maker(31)
	a := sharing()
	v := a.V[0]
	made, code := tube.Make(of(-9, 0), v.Lo, v)
	halves, c := tube.Halve(a)
	// Both times are the limbs of a cell's ends too.
	piece, e := tube.Cut(a, of(1, 0), v.Lo)
	one, f := tube.At(a, v.Lo)
	if code != api.OK || c != api.OK || e != api.OK || f != api.OK {
		t.Fatal(code, c, e, f)
	}
	for name, got := range map[string]api.Tube{"Make": made, "Halve": halves, "Cut": piece, "At": {V: row(one)}} {
		ownLists(t, name, got, r)
	}
	if !equals(a, sharing()) {
		t.Errorf("what was handed in is %v now", a)
	}
}

// wildDyad is any Dyad, most of the time one that may be.
func wildDyad(r *rand.Rand) api.Dyad {
	edges := []int{0, 1, -1, maxExp, -maxExp, maxExp + 1, -maxExp - 1, maxBits, math.MaxInt, math.MinInt}
	m := make([]uint64, 1+r.IntN(2))
	if r.IntN(20) == 0 {
		m = make([]uint64, 60+r.IntN(6))
	}
	for i := range m {
		m[i] = r.Uint64() | 1
	}
	d := api.Dyad{Neg: r.IntN(2) == 0, M: m, E: r.IntN(200) - 100}
	switch r.IntN(100) {
	case 0:
		d.M[0] &^= 1
	case 1:
		d.M[len(d.M)-1] = 0
	case 2:
		d.M = nil
	case 3:
		d.E = edges[r.IntN(len(edges))]
	}
	return d
}

// wild is any tube, most of the time with times and ends in their order.
func wild(r *rand.Rand) api.Tube {
	n := r.IntN(6)
	t := api.Tube{At: make([]api.Dyad, n+1), V: make([]api.Ival, n)}
	for k := range t.At {
		t.At[k] = wildDyad(r)
	}
	if r.IntN(8) > 0 {
		slices.SortFunc(t.At, tame)
	}
	for k := range t.V {
		t.V[k] = api.Ival{Lo: wildDyad(r), Hi: wildDyad(r)}
		if r.IntN(40) > 0 && tame(t.V[k].Lo, t.V[k].Hi) > 0 {
			t.V[k].Lo, t.V[k].Hi = t.V[k].Hi, t.V[k].Lo
		}
	}
	if r.IntN(10) == 0 {
		t.At = t.At[:r.IntN(len(t.At)+1)]
	}
	return t
}

// tame is the order of numbers that may be, nearly enough for those that may not.
func tame(a, b api.Dyad) int {
	if max(a.E, b.E, -a.E, -b.E) > 2*maxExp {
		return 0
	}
	return order(a, b)
}

// TestWild: of any arguments whatever no call panics; each answers what may be, and nothing beside an error.
func TestWild(t *testing.T) {
	r := maker(32)
	right := 0
	for range 20000 {
		a, b, from, to := wild(r), wild(r), wildDyad(r), wildDyad(r)
		if r.IntN(2) == 0 && len(a.At) > 0 {
			from, to = a.At[r.IntN(len(a.At))], a.At[r.IntN(len(a.At))]
		}
		if r.IntN(2) == 0 && len(a.At) > 0 && len(b.At) > 0 {
			b.At[0] = a.At[len(a.At)-1]
		}
		may := tube.May(a)
		for name, call := range map[string]func() (api.Tube, int){
			"Join":  func() (api.Tube, int) { return tube.Join(a, b) },
			"Halve": func() (api.Tube, int) { return tube.Halve(a) },
			"Cut":   func() (api.Tube, int) { return tube.Cut(a, from, to) },
		} {
			got, code := call()
			if !may && code != api.ErrArg || code == api.OK && !tube.May(got) || code != api.OK && !equals(got, api.Tube{}) {
				t.Fatalf("%s of %v, %v, %v, %v: %v, %d", name, a, b, from, to, got, code)
			}
			if code == api.OK {
				right++
			}
		}
		v, code := tube.Over(a, from, to)
		w, c := tube.At(a, from)
		for _, x := range []struct {
			v    api.Ival
			code int
		}{{v, code}, {w, c}} {
			if !may && x.code != api.ErrArg || x.code != api.OK && !equal(x.v, api.Ival{}) || order(x.v.Lo, x.v.Hi) > 0 {
				t.Fatalf("At, Over of %v, %v, %v: %v, %d", a, from, to, x.v, x.code)
			}
		}
		if tube.Within(a, b) && (!may || !tube.May(b)) || tube.Within(a, a) != may || tube.Inside(a, a) {
			t.Fatalf("Within, Inside of %v, %v", a, b)
		}
		if w, code := tube.Width(a); may == (code == api.ErrArg) || code != api.OK && !alike(w, api.Dyad{}) || w.Neg {
			t.Fatalf("Width of %v: %v, %d", a, w, code)
		}
	}
	if right < 2000 {
		t.Error("too few answers:", right)
	}
}
