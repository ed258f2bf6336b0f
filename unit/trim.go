package unit

import (
	"slices"

	"sluiceway/api"
)

// trim leaves no inputs and parameters but those that lines ask for, since there may be far more than lines, and tells f's outs apart.
func (s *part) trim() {
	var ins, pars []int
	for _, t := range []*api.Tape{&s.f, &s.g} {
		t.Lines = slices.Clone(t.Lines)
		ins = renumbered(t.Lines, api.OIn, ins)
		pars = renumbered(t.Lines, api.OPar, pars)
	}
	s.u, s.p = picked(s.u, ins), picked(s.p, pars)
	for k := range s.f.Outs {
		s.alone = append(s.alone, alone(s.f, k))
	}
}

// renumbered lets the lines of an operation ask by the places in these for what they ask for; what isn't there yet comes behind.
func renumbered(lines []api.Line, op int, these []int) []int {
	for i, l := range lines {
		if l.Op != op {
			continue
		}
		place := slices.Index(these, l.A)
		if place < 0 {
			place, these = len(these), append(these, l.A)
		}
		lines[i].A = place
	}
	return these
}

// picked are those of all that have these numbers.
func picked[T any](all []T, these []int) []T {
	var some []T
	for _, k := range these {
		some = append(some, all[k])
	}
	return some
}

// alone is the tape of t's out k, with no lines but those that it leans on.
func alone(t api.Tape, k int) api.Tape {
	asked := leaned(t, t.Outs[k])
	places := make([]int, len(t.Lines))
	var lines []api.Line
	for i, l := range t.Lines {
		if !asked[i] {
			continue
		}
		one, two := leans(l.Op)
		if one {
			l.A = places[l.A]
		}
		if two {
			l.B = places[l.B]
		}
		places[i] = len(lines)
		lines = append(lines, l)
	}
	return api.Tape{Lines: lines, Outs: []int{places[t.Outs[k]]}}
}

// leaned tells of all lines of t which ones a line leans on; with itself.
func leaned(t api.Tape, line int) []bool {
	asked := make([]bool, len(t.Lines))
	asked[line] = true
	for i, l := range slices.Backward(t.Lines) {
		one, two := leans(l.Op)
		if asked[i] && one {
			asked[l.A] = true
		}
		if asked[i] && two {
			asked[l.B] = true
		}
	}
	return asked
}

// leans tells whether a line of op leans on a line above it, and on two.
func leans(op int) (one, two bool) {
	switch op {
	case api.OAdd, api.OSub, api.OMul, api.ODiv:
		return true, true
	case api.ONeg, api.OSqr, api.OSqrt, api.OExp:
		return true, false
	}
	return false, false
}
