package tube

import (
	"slices"

	"sluiceway/api"
	"sluiceway/dyad"
	"sluiceway/ival"
)

// Inside tells whether all of a is in b, and neither of b's sides in a.
func Inside(a, b api.Tube) bool {
	return beside(a, b, ival.Inside)
}

// Within tells whether all of a is in b.
func Within(a, b api.Tube) bool {
	return beside(a, b, ival.Within)
}

// Same tells whether a and b are the same in all parts.
func Same(a, b api.Tube) bool {
	return slices.EqualFunc(a.At, b.At, dyad.Same) && slices.EqualFunc(a.V, b.V, ival.Same)
}

// beside tells whether a and b may be and go from one time to one other, and each cell of a stands as is asked for to each of b with which it has more than one time in common.
func beside(a, b api.Tube, stands func(a, b api.Ival) bool) bool {
	if !May(a) || !May(b) || !dyad.Same(a.At[0], b.At[0]) || !dyad.Same(last(a), last(b)) {
		return false
	}
	j := 0
ofA:
	for i, v := range a.V {
		for ; j < len(b.V); j++ {
			if !stands(v, b.V[j]) {
				return false
			}
			switch dyad.Cmp(a.At[i+1], b.At[j+1]) {
			case -1:
				// This cell of b goes on beside the next one of a.
				continue ofA
			case 0:
				j++
				continue ofA
			}
		}
	}
	return true
}

// cells are those of t that begin before to and end behind from, with their times as they are; whether one at the very time is so too is told by comes.
func cells(t api.Tube, from, to api.Dyad, comes func(a, b api.Dyad) bool) api.Tube {
	var some api.Tube
ofT:
	for k, v := range t.V {
		switch {
		case !comes(from, t.At[k+1]):
			continue ofT
		case !comes(t.At[k], to):
			break ofT
		case len(some.V) == 0:
			some.At = append(some.At, t.At[k])
		}
		some.At, some.V = append(some.At, t.At[k+1]), append(some.V, v)
	}
	return some
}

// before tells whether a and b may be, and a is below b.
func before(a, b api.Dyad) bool {
	// Of what may not be Cmp is 0.
	return dyad.Cmp(a, b) < 0
}

// upTo tells whether a and b may be, and a is not above b.
func upTo(a, b api.Dyad) bool {
	return before(a, b) || dyad.May(a) && dyad.Same(a, b)
}

// own is t in memory of its own.
func own(t api.Tube) api.Tube {
	mine := api.Tube{At: make([]api.Dyad, len(t.At)), V: make([]api.Ival, len(t.V))}
	for k, d := range t.At {
		mine.At[k] = ownNumber(d)
	}
	for k, v := range t.V {
		mine.V[k] = api.Ival{Lo: ownNumber(v.Lo), Hi: ownNumber(v.Hi)}
	}
	return mine
}

// ownNumber is d in memory of its own.
func ownNumber(d api.Dyad) api.Dyad {
	d.M = slices.Clone(d.M)
	return d
}
