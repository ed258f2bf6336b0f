package tube_test

import (
	"math/rand/v2"
	"slices"
	"testing"

	"sluiceway/api"
	"sluiceway/ival"
	"sluiceway/tube"
)

// within and inside are 5's words.
func within(a, b api.Ival) bool { return order(b.Lo, a.Lo) <= 0 && order(a.Hi, b.Hi) <= 0 }
func inside(a, b api.Ival) bool { return order(b.Lo, a.Lo) < 0 && order(a.Hi, b.Hi) < 0 }

// stand tells whether a and b have the same ends, and each cell of a stands as is asked for to each of b that has more than one time in common with it: all pairs are asked.
func stand(a, b api.Tube, as func(a, b api.Ival) bool) bool {
	right := order(a.At[0], b.At[0]) == 0 && order(a.At[len(a.V)], b.At[len(b.V)]) == 0
	for i, v := range a.V {
		for j, w := range b.V {
			begin, end := slices.MaxFunc(row(a.At[i], b.At[j]), order), slices.MinFunc(row(a.At[i+1], b.At[j+1]), order)
			if order(begin, end) < 0 && !as(v, w) {
				right = false
			}
		}
	}
	return right
}

// ended are n times at most from from to to, both among them, and others of these between.
func ended(r *rand.Rand, these []api.Dyad, from, to, n int) []api.Dyad {
	between := these[from+1 : to]
	at := append(row(these[from]), picked(r, between, min(n, len(between)))...)
	return append(at, these[to])
}

// paired hands over two tubes of the same times at their ends, most often so that the one is in the other in most places.
func paired(r *rand.Rand, try func(a, b api.Tube)) {
	for _, these := range row(quarters(), marks()) {
		from := r.IntN(len(these) / 2)
		to := from + 1 + r.IntN(len(these)-from-1)
		a := valued(r, ended(r, these, from, to, r.IntN(8)), marks()[2:10])
		b := valued(r, ended(r, these, from, to, r.IntN(8)), marks())
		try(a, b)
		// b is made wide where it must be, but one cell at most.
		left := r.IntN(3 * len(b.V))
		for j := range b.V {
			if j == left {
				continue
			}
			b.V[j] = api.Ival{Lo: of(-3, 0), Hi: of(1, 0)}
			if r.IntN(3) > 0 {
				b.V[j] = api.Ival{Lo: of(-7, 0), Hi: of(1, maxExp)}
			}
		}
		try(a, b)
		try(b, a)
		for j := range a.V {
			a.V[j] = span(-1, 1, -1)
		}
		try(a, b)
	}
}

func TestWithinAndInside(t *testing.T) {
	r := maker(20)
	var count [4]int
	for range 1500 {
		paired(r, func(a, b api.Tube) {
			w, i := stand(a, b, within), stand(a, b, inside)
			if got := tube.Within(a, b); got != w {
				t.Fatalf("Within(%v, %v): %v", a, b, got)
			}
			if got := tube.Inside(a, b); got != i {
				t.Fatalf("Inside(%v, %v): %v", a, b, got)
			}
			if !tube.Within(a, a) || tube.Inside(a, a) {
				t.Fatalf("%v in itself", a)
			}
			for k, is := range []bool{w, i, !w, w && !i} {
				if is && len(a.V) > 2 && len(b.V) > 2 {
					count[k]++
				}
			}
		})
	}
	if slices.Min(count[:]) < 200 {
		t.Error("too few of a kind:", count)
	}
}

// TestOneCell holds tubes of which one cell alone is not as the others are, wherever it stands, and however the times of the two stand to each other.
func TestOneCell(t *testing.T) {
	outer, inner := even(24, span(0, 4, 0)), even(24, span(1, 3, 0))
	var fine api.Tube
	for n := range int64(49) {
		fine.At = append(fine.At, of(n, -1))
	}
	fine.V = slices.Repeat(row(span(1, 3, 0)), 48)
	var shifted api.Tube
	shifted.At = append(append(times(0, 0), fine.At[1:48]...), of(24, 0))
	shifted.At = slices.DeleteFunc(shifted.At, func(d api.Dyad) bool { return d.E >= 0 && d.M != nil && !alike(d, of(24, 0)) })
	shifted.V = slices.Repeat(row(span(1, 3, 0)), len(shifted.At)-1)
	for _, a := range row(inner, fine, shifted) {
		if !tube.May(a) || !tube.Within(a, outer) || !tube.Inside(a, outer) || tube.Within(outer, a) || tube.Inside(outer, a) {
			t.Fatalf("of %d cells", len(a.V))
		}
		for k := range a.V {
			other := api.Tube{At: a.At, V: slices.Clone(a.V)}
			for _, x := range []struct {
				v              api.Ival
				within, inside bool
			}{{span(0, 3, 0), true, false}, {span(1, 4, 0), true, false}, {span(-1, 3, 0), false, false}, {span(1, 5, 0), false, false}, {span(2, 2, 0), true, true}} {
				other.V[k] = x.v
				if tube.Within(other, outer) != x.within || tube.Inside(other, outer) != x.inside {
					t.Errorf("%v at %d of %d", x.v, k, len(a.V))
				}
			}
		}
		for k := range outer.V {
			narrow := api.Tube{At: outer.At, V: slices.Clone(outer.V)}
			narrow.V[k] = span(1, 3, 0)
			if !tube.Within(a, narrow) || tube.Inside(a, narrow) {
				t.Errorf("as narrow at %d", k)
			}
			narrow.V[k] = span(2, 3, 0)
			if tube.Within(a, narrow) || tube.Inside(a, narrow) {
				t.Errorf("narrower at %d", k)
			}
		}
	}
}

// TestOneTime holds tubes whose cells have one time in common: there it doesn't matter how they stand to each other.
func TestOneTime(t *testing.T) {
	a := api.Tube{At: times(0, 0, 1, 2), V: row(span(1, 2, 0), span(5, 6, 0))}
	b := api.Tube{At: times(0, 0, 1, 2), V: row(span(0, 3, 0), span(4, 7, 0))}
	if !tube.Inside(a, b) || !tube.Within(a, b) {
		t.Error("cells that end at one time")
	}
	for _, e := range []int{-1, -40, -2000, -maxExp} {
		late, early := b, b
		// Off by however little, the cells have more than one time in common.
		late.At = row(of(0, 0), of(3, -1), of(2, 0))
		early.At = row(of(0, 0), of(1, e), of(2, 0))
		if tube.Within(a, late) || tube.Inside(a, late) || tube.Within(a, early) || tube.Inside(a, early) {
			t.Error("off by", e)
		}
		tiny := api.Tube{At: row(of(0, 0), of(1, e), of(2, 0)), V: row(span(5, 6, 0), span(1, 2, 0))}
		wide, none := api.Tube{At: times(0, 0, 2), V: row(span(0, 7, 0))}, api.Tube{At: times(0, 0, 2), V: row(span(0, 3, 0))}
		if !tube.Inside(tiny, wide) || tube.Within(tiny, none) || tube.Within(wide, tiny) {
			t.Error("a cell as long as", e)
		}
	}
}

// TestOtherEnds: of tubes with other first or last times neither is in the other, whatever their cells are.
func TestOtherEnds(t *testing.T) {
	inner := span(1, 2, 0)
	wide := api.Ival{Lo: of(-1, maxExp), Hi: of(1, maxExp)}
	for _, at := range [][]api.Dyad{times(0, 0, 1, 2), times(-1, 0, 1, 4), times(0, 0, 2)} {
		a := api.Tube{At: at, V: slices.Repeat(row(inner), len(at)-1)}
		for _, other := range [][]api.Dyad{times(0, 0, 1), times(0, 0, 3), times(0, 1, 2), times(0, -1, 2), times(0, 0, 1, 2, 3), times(0, -1, 0, 1, 2), row(of(0, 0), of(1, 0), of(1, maxExp)), row(of(-1, -maxExp), of(2, 0)), times(0, 7, 8)} {
			b := api.Tube{At: other, V: slices.Repeat(row(wide), len(other)-1)}
			if tube.Within(a, b) || tube.Inside(a, b) || tube.Within(b, a) || tube.Inside(b, a) {
				t.Errorf("of %v and %v", at, other)
			}
		}
	}
}

// at are values from -2 to 2, of which each tells whether t's signal may have it at d: if it is in all cells that have d.
func at(t api.Tube, d api.Dyad) []bool {
	var may []bool
	for n := int64(-8); n <= 8; n++ {
		in := true
		for k, v := range t.V {
			if order(t.At[k], d) <= 0 && order(d, t.At[k+1]) <= 0 {
				in = in && within(span(n, n, -2), v)
			}
		}
		may = append(may, in)
	}
	return may
}

// TestAtAllTimes: of 13.3, of what is inside a tube (or in it) each value that it may have is one that the tube may have, at all times; and what is not, has at some time one that the tube has not.
func TestAtAllTimes(t *testing.T) {
	r := maker(21)
	var count [2]int
	for range 1500 {
		a := valued(r, ended(r, times(-1, 0, 1, 2, 3, 4), 0, 4, r.IntN(4)), times(-1, -2, -1, 0, 1, 2))
		b := valued(r, ended(r, times(-1, 0, 1, 2, 3, 4), 0, 4, r.IntN(3)), times(-1, -4, -2, -1, 1, 2, 4))
		in, inner := true, true
		for n := range int64(17) {
			d := of(n, -3)
			has, may := at(a, d), at(b, d)
			for k := range has {
				in = in && (!has[k] || may[k])
				// A little to both sides too, but not at times where cells meet: there b's cells have less in common.
				inner = inner && (!has[k] || n%4 == 0 || may[k-1] && may[k+1])
			}
			if !tube.Within(a, b) {
				continue
			}
			v, _ := tube.At(a, d)
			w, code := tube.At(b, d)
			if code != api.OK || !ival.Within(v, w) || tube.Inside(a, b) && !ival.Inside(v, w) {
				t.Fatalf("at %v %v is in %v, %v in %v", d, a, v, b, w)
			}
		}
		if got := tube.Within(a, b); got != in {
			t.Fatalf("Within(%v, %v): %v", a, b, got)
		}
		if got := tube.Inside(a, b); got != inner {
			t.Fatalf("Inside(%v, %v): %v", a, b, got)
		}
		if in {
			count[0]++
		}
		if inner {
			count[1]++
		}
	}
	if slices.Min(count[:]) < 100 {
		t.Error("too few of a kind:", count)
	}
}

// TestPieces: a tube that is halved, or cut and joined again, tells the same of all times, and so stays in what it was in.
func TestPieces(t *testing.T) {
	r := maker(22)
	for range 300 {
		a := near(r)
		first, last := a.At[0], a.At[len(a.V)]
		halves, code := tube.Halve(a)
		if code != api.OK || !tube.May(halves) || !tube.Within(halves, a) || !tube.Within(a, halves) {
			t.Fatalf("Halve(%v): %v, %d", a, halves, code)
		}
		for _, d := range eighths() {
			v, c := tube.At(a, d)
			w, e := tube.At(halves, d)
			if c != e || !equal(v, w) {
				t.Fatalf("At %v of %v: %v, %d; of its halves: %v, %d", d, a, v, c, w, e)
			}
			if order(first, d) >= 0 || order(d, last) >= 0 {
				continue
			}
			left, c := tube.Cut(a, first, d)
			right, e := tube.Cut(a, d, last)
			again, f := tube.Join(left, right)
			if c != api.OK || e != api.OK || f != api.OK || !tube.Within(again, a) || !tube.Within(a, again) {
				t.Fatalf("%v cut at %v, and joined: %v", a, d, again)
			}
			v, _ = tube.Over(a, first, last)
			x, _ := tube.Over(left, first, d)
			y, _ := tube.Over(right, d, last)
			if all, _ := ival.Hull(x, y); !equal(all, v) {
				t.Fatalf("%v is over all %v, its pieces are %v", a, v, all)
			}
		}
	}
}
