package box_test

import (
	"math"
	"math/rand/v2"
	"slices"
	"testing"

	"sluiceway/api"
	"sluiceway/box"
)

// badDyads are Dyads that may not be, each for one reason.
var badDyads = []api.Dyad{
	{Neg: true},
	{E: 1},
	{M: []uint64{}, E: -1},
	{M: []uint64{0}},
	{M: []uint64{6}},
	{M: []uint64{0, 1}, Neg: true},
	{M: []uint64{1, 0}},
	{M: slices.Repeat([]uint64{1}, api.MaxLimbs+1)},
	{M: []uint64{1}, E: maxExp + 1},
	{M: []uint64{1}, E: -maxExp - 1, Neg: true},
	{M: []uint64{3}, E: math.MinInt},
	{M: []uint64{3}, E: math.MaxInt},
}

// bad are intervals that may not be: for an end, or for their order.
func bad() []api.Ival {
	var all []api.Ival
	for _, d := range badDyads {
		all = append(all, api.Ival{Lo: d, Hi: d}, api.Ival{Lo: of(-9, 0), Hi: d}, api.Ival{Lo: d, Hi: of(9, 0)})
	}
	return append(all, span(3, 1, 0), span(1, 0, -maxExp), span(0, -1, -maxExp), api.Ival{Lo: of(1, maxBits), Hi: ones(maxBits)})
}

// asks are the calls that tell whether two boxes stand to each other as asked.
func asks() map[string]func(a, b []api.Ival) bool {
	return map[string]func(a, b []api.Ival) bool{"Within": box.Within, "Inside": box.Inside}
}

// answers are the calls that answer a box of two.
func answers() map[string]func(a, b []api.Ival) ([]api.Ival, int) {
	return map[string]func(a, b []api.Ival) ([]api.Ival, int){"Hull": box.Hull, "Meet": box.Meet}
}

// refused holds all calls of two boxes to what they answer of two that are wrong.
func refused(t *testing.T, a, b []api.Ival) {
	t.Helper()
	for name, ask := range asks() {
		if ask(a, b) || ask(b, a) {
			t.Errorf("%s of %v, %v", name, a, b)
		}
	}
	for name, call := range answers() {
		for _, these := range [][2][]api.Ival{{a, b}, {b, a}} {
			if got, code := call(these[0], these[1]); code != api.ErrArg || len(got) != 0 {
				t.Errorf("%s of %v: %v, %d", name, these, got, code)
			}
		}
	}
}

// middles are of each of b a number that is in it.
func middles(b []api.Ival) []api.Dyad {
	var x []api.Dyad
	for _, a := range b {
		x = append(x, a.Lo)
	}
	return x
}

// TestLengths: of two that are not equally long nothing is told, whatever they have in common, and whatever they have not.
func TestLengths(t *testing.T) {
	outer, inner := slices.Repeat(row(span(0, 4, 0)), 5), slices.Repeat(row(span(1, 3, 0)), 5)
	apart := slices.Repeat(row(span(7, 8, 0)), 5)
	for n := range 6 {
		for m := range 6 {
			if n == m {
				continue
			}
			refused(t, inner[:n], outer[:m])
			refused(t, inner[:n], inner[:m])
			refused(t, inner[:n], apart[:m])
			refused(t, inner[:n], append(slices.Clone(outer[:m]), bad()[0]))
			if box.Has(outer[:n], middles(inner[:m])) {
				t.Errorf("Has of %d, %d", n, m)
			}
		}
	}
}

// TestNothing: boxes of no rows are the same whether nil or empty; all is true of all of their rows.
func TestNothing(t *testing.T) {
	for _, a := range [][]api.Ival{nil, {}, make([]api.Ival, 0, 3)} {
		if !box.May(a) || !box.Has(a, nil) || !box.Has(a, []api.Dyad{}) || box.Has(a, make([]api.Dyad, 1)) || len(box.Corner(a, -1)) != 0 {
			t.Error("of nothing")
		}
		for _, b := range [][]api.Ival{nil, {}} {
			for name, ask := range asks() {
				if !ask(a, b) || !ask(b, a) {
					t.Error(name, "of nothing")
				}
			}
			for name, call := range answers() {
				if got, code := call(a, b); code != api.OK || len(got) != 0 {
					t.Error(name, "of nothing:", got, code)
				}
			}
		}
		if w, code := box.Width(a); code != api.OK || !alike(w, api.Dyad{}) {
			t.Error("Width of nothing:", w, code)
		}
	}
}

func TestMay(t *testing.T) {
	for _, a := range grid() {
		if !box.May(row(a)) || !box.May(row(span(1, 2, 0), a, span(-1, 0, 9))) {
			t.Errorf("May of %v is false", a)
		}
	}
	if !box.May(grid()) {
		t.Error("May of all is false")
	}
	for _, a := range bad() {
		if box.May(row(a)) {
			t.Errorf("May of %v is true", a)
		}
	}
}

// TestWrong hands over rows that may not be, at each place of one or the other, beside rows that may.
func TestWrong(t *testing.T) {
	wide := span(-1, 1, maxExp)
	for _, wrong := range bad() {
		for i := range 4 {
			b := slices.Repeat(row(span(1, 2, 0)), 4)
			b[i] = wrong
			if box.May(b) || len(box.Corner(b, 5)) != 0 || box.Has(b, middles(b)) || box.Has(b, slices.Repeat(row(of(1, 0)), 4)) {
				t.Errorf("May, Corner, Has of %v", b)
			}
			if w, code := box.Width(b); code != api.ErrArg || !alike(w, api.Dyad{}) {
				t.Errorf("Width of %v: %v, %d", b, w, code)
			}
			refused(t, b, slices.Repeat(row(span(1, 2, 0)), 4))
			refused(t, b, slices.Repeat(row(wide), 4))
			refused(t, b, b)
			// Nothing in common at any other place: it is no box all the same.
			refused(t, b, slices.Repeat(row(span(8, 9, 0)), 4))
			refused(t, b, make([]api.Ival, 3))
		}
	}
	for _, d := range badDyads {
		for i := range 3 {
			x := slices.Repeat(row(api.Dyad{}), 3)
			x[i] = d
			if box.Has(slices.Repeat(row(wide), 3), x) {
				t.Errorf("Has of %v", x)
			}
		}
	}
}

// withRoom is a copy of b, with room behind it and behind its limbs that an append would write to.
func withRoom(b []api.Ival) []api.Ival {
	all := make([]api.Ival, 0, len(b)+4)
	for _, a := range b {
		a.Lo.M = append(make([]uint64, 0, 8), a.Lo.M...)
		a.Hi.M = append(make([]uint64, 0, 8), a.Hi.M...)
		all = append(all, a)
	}
	return all
}

// changed tells whether what came of withRoom(b) is something else by now.
func changed(got, b []api.Ival) bool {
	want := withRoom(b)
	for i, a := range want {
		if !slices.Equal(got[i].Lo.M[:8], a.Lo.M[:8]) || !slices.Equal(got[i].Hi.M[:8], a.Hi.M[:8]) {
			return true
		}
	}
	return !equals(got, b) || !equals(got[:cap(got)][len(got):], want[:cap(want)][len(want):])
}

// spoil overwrites a list of limbs and the room behind it.
func spoil(m []uint64) {
	m = m[:cap(m)]
	for i := range m {
		m[i] = 0xbad
	}
}

// all are all calls, their answers as rows.
func all() map[string]func(a, b []api.Ival) []api.Ival {
	pointwise := func(x []api.Dyad) []api.Ival {
		var rows []api.Ival
		for _, d := range x {
			rows = append(rows, api.Ival{Hi: d})
		}
		return rows
	}
	calls := map[string]func(a, b []api.Ival) []api.Ival{
		"Width": func(a, _ []api.Ival) []api.Ival {
			w, _ := box.Width(a)
			return pointwise(row(w))
		},
		"Corner": func(a, _ []api.Ival) []api.Ival { return pointwise(box.Corner(a, 5)) },
		"asks": func(a, b []api.Ival) []api.Ival {
			box.May(a)
			box.Within(a, b)
			box.Inside(a, b)
			box.Has(a, middles(b))
			return nil
		},
	}
	for name, call := range answers() {
		calls[name] = func(a, b []api.Ival) []api.Ival {
			rows, _ := call(a, b)
			return rows
		}
	}
	return calls
}

// TestMemory: what is handed in is not changed, and what is answered is the caller's own, each list of it by itself.
func TestMemory(t *testing.T) {
	same := api.Ival{Lo: of(9, 0), Hi: of(9, 0)}
	same.Hi.M = same.Lo.M
	boxes := [][]api.Ival{
		nil,
		row(span(-5, 9, -3), span(0, 1, 70), span(7, 7, 0)),
		row(api.Ival{Hi: ones(200)}, span(-7, 0, 0), same),
		// All rows share their limbs.
		row(same, same, same),
		row(span(3, 1, 0), span(1, 2, 0), same),
		row(api.Ival{Hi: api.Dyad{M: []uint64{4}}}, same, same),
	}
	for name, call := range all() {
		for _, a := range boxes {
			for _, b := range boxes {
				want := call(a, b)
				x, y := withRoom(a), withRoom(b)
				got := call(x, y)
				if changed(x, a) || changed(y, b) {
					t.Fatalf("%s changed %v, %v to %v, %v", name, a, b, x, y)
				}
				for _, in := range slices.Concat(x, y) {
					spoil(in.Lo.M)
					spoil(in.Hi.M)
				}
				clear(x)
				clear(y)
				if !equals(got, want) {
					t.Fatalf("%s of %v, %v: the answer shares memory", name, a, b)
				}
				ownLists(t, name, call(a, b), want)
			}
		}
	}
}

// ownLists spoils list after list of an answer: those behind it must stay as they are.
func ownLists(t *testing.T, name string, got, want []api.Ival) {
	t.Helper()
	for i := range got {
		spoil(got[i].Lo.M)
		if !alike(got[i].Hi, want[i].Hi) {
			t.Fatalf("%s: both ends at %d share memory", name, i)
		}
		spoil(got[i].Hi.M)
		if !equals(got[i+1:], want[i+1:]) {
			t.Fatalf("%s: rows share memory with that at %d", name, i)
		}
	}
}

// wildDyad is any Dyad, most of the time one that may be.
func wildDyad(r *rand.Rand) api.Dyad {
	edges := []int{0, 1, -1, maxExp, -maxExp, maxExp + 1, -maxExp - 1, maxBits, math.MaxInt, math.MinInt}
	m := make([]uint64, 1+r.IntN(3))
	if r.IntN(20) == 0 {
		m = make([]uint64, 60+r.IntN(6))
	}
	for i := range m {
		m[i] = r.Uint64() | 1
	}
	d := api.Dyad{Neg: r.IntN(2) == 0, M: m, E: r.IntN(200) - 100}
	switch r.IntN(40) {
	case 0:
		d.M[0] &^= 1
	case 1:
		d.M[len(d.M)-1] = 0
	case 2:
		d.M = nil
	case 3:
		d.E = edges[r.IntN(len(edges))]
	}
	return d
}

// wild is any box of n rows, most of the time with ends in their order.
func wild(r *rand.Rand, n int) []api.Ival {
	b := make([]api.Ival, n)
	for i := range b {
		b[i] = api.Ival{Lo: wildDyad(r), Hi: wildDyad(r)}
		if r.IntN(40) > 0 {
			b[i].Lo.Neg, b[i].Hi.Neg = len(b[i].Lo.M) > 0, false
		}
	}
	return b
}

// TestWild: of any arguments whatever no call panics; each answers what may be, and nothing beside an error.
func TestWild(t *testing.T) {
	r := maker(4)
	for range 20000 {
		n, m := r.IntN(5), r.IntN(5)
		if r.IntN(4) > 0 {
			m = n
		}
		a, b := wild(r, n), wild(r, m)
		right := n == m && box.May(a) && box.May(b)
		for name, call := range answers() {
			got, code := call(a, b)
			if right == (code == api.ErrArg) || !box.May(got) || code != api.OK && len(got) != 0 || code == api.OK && len(got) != n {
				t.Fatalf("%s of %v, %v: %v, %d", name, a, b, got, code)
			}
		}
		for name, ask := range asks() {
			if ask(a, b) && !right {
				t.Fatalf("%s of %v, %v", name, a, b)
			}
		}
		if box.Has(a, middles(b)) && (n != m || !box.May(a)) {
			t.Fatalf("Has of %v, %v", a, b)
		}
		if w, code := box.Width(a); box.May(a) && code == api.ErrArg || !box.May(a) && code == api.OK || code != api.OK && !alike(w, api.Dyad{}) || w.Neg {
			t.Fatalf("Width of %v: %v, %d", a, w, code)
		}
		if got := box.Corner(a, int(r.Uint64())); box.May(a) && !box.Has(a, got) || !box.May(a) && len(got) != 0 {
			t.Fatalf("Corner of %v: %v", a, got)
		}
	}
}
