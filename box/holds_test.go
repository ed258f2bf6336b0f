package box_test

import (
	"slices"
	"testing"

	"sluiceway/api"
	"sluiceway/box"
)

// small are the boxes of two rows with ends of -1, 0 and so on up to 2.
func small() [][]api.Ival {
	var sides []api.Ival
	for lo := int64(-1); lo <= 2; lo++ {
		for hi := lo; hi <= 2; hi++ {
			sides = append(sides, span(lo, hi, 0))
		}
	}
	var boxes [][]api.Ival
	for _, a := range sides {
		for _, b := range sides {
			boxes = append(boxes, row(a, b))
		}
	}
	return boxes
}

// side is how many halves there are from -2 to 3: so many points lie side by side.
const side = 11

// held tells of all points of such halves, line by line, whether they are in b.
func held(b []api.Ival) []bool {
	var in []bool
	for n := int64(-4); n <= 6; n++ {
		for m := int64(-4); m <= 6; m++ {
			in = append(in, box.Has(b, row(of(n, -1), of(m, -1))))
		}
	}
	return in
}

// around tells whether all points beside that at i, and it itself, are held.
func around(in []bool, i int) bool {
	for _, n := range []int{-side, 0, side} {
		for m := -1; m <= 1; m++ {
			if !in[i+n+m] {
				return false
			}
		}
	}
	return true
}

// TestSets: of 11.2, boxes are the sets of the points that they have.
func TestSets(t *testing.T) {
	boxes := small()
	var points [][]bool
	for _, b := range boxes {
		points = append(points, held(b))
	}
	for i, a := range boxes {
		for j, b := range boxes {
			all, inner, common, either := true, true, make([]bool, side*side), make([]bool, side*side)
			for k, in := range points[i] {
				all = all && (!in || points[j][k])
				inner = inner && (!in || around(points[j], k))
				common[k] = in && points[j][k]
				either[k] = in || points[j][k]
			}
			if box.Within(a, b) != all || box.Inside(a, b) != inner {
				t.Fatalf("Within, Inside of %v, %v", a, b)
			}
			meet, code := box.Meet(a, b)
			if slices.Contains(common, true) != (code == api.OK) || code == api.OK && !slices.Equal(held(meet), common) {
				t.Fatalf("Meet of %v, %v: %v, %d", a, b, meet, code)
			}
			hull, code := box.Hull(a, b)
			if code != api.OK || !least(held(hull), either) {
				t.Fatalf("Hull of %v, %v: %v, %d", a, b, hull, code)
			}
		}
	}
}

// least tells whether the points of a box are those of the least one that has all that are in some set.
func least(in, some []bool) bool {
	for i := range side {
		for j := range side {
			// In the least box is what lies between lines in which something is, both ways.
			between := reaches(some, i, func(n, m int) int { return n*side + m }) && reaches(some, j, func(n, m int) int { return m*side + n })
			if in[i*side+j] != between {
				return false
			}
		}
	}
	return true
}

// reaches tells whether something is in a line up to that at i, and in one from it on.
func reaches(some []bool, i int, at func(n, m int) int) bool {
	below, above := false, false
	for n := range side {
		for m := range side {
			if some[at(n, m)] {
				below = below || n <= i
				above = above || n >= i
			}
		}
	}
	return below && above
}

// TestCorners: a box's corners are in it, all unlike, and it is the least box that has them; its width is the greatest that two of them are apart.
func TestCorners(t *testing.T) {
	b := row(span(-1, 2, 0), span(3, 5, -2), span(0, 1, 9), span(-7, -6, 0), span(1, 2, -maxExp), span(-9, 8, 1))
	seen := map[int][]api.Dyad{}
	var hull []api.Ival
	for k := range 1 << len(b) {
		c := box.Corner(b, k)
		if !box.Has(b, c) {
			t.Fatalf("the corner %d: %v", k, c)
		}
		for other, d := range seen {
			if slices.EqualFunc(c, d, alike) {
				t.Fatalf("the corners %d and %d are the same", k, other)
			}
		}
		seen[k] = c
		point := make([]api.Ival, len(c))
		for i, d := range c {
			point[i] = api.Ival{Lo: d, Hi: d}
		}
		if hull == nil {
			hull = point
		}
		var code int
		if hull, code = box.Hull(hull, point); code != api.OK {
			t.Fatal(code)
		}
	}
	if !equals(hull, b) {
		t.Errorf("the hull of the corners: %v, want %v", hull, b)
	}
	if w, code := box.Width(b); code != api.OK || !alike(w, of(1, 9)) {
		t.Error("Width:", w, code)
	}
}
