package flow

import (
	"sluiceway/api"
	"sluiceway/box"
	"sluiceway/dyad"
	"sluiceway/fault"
	"sluiceway/jet"
	"sluiceway/reckon"
	"sluiceway/slope"
	"sluiceway/tape"
)

const (
	// mostRounds is how often a box is made wider that the rates on it lead out of.
	mostRounds = 8
	// order is that of the rests of Taylor's sums.
	order = api.MaxOrder
)

// taken is where a step from x leads: by the rates on the way, and nearer by Taylor's sums, as far as there are any.
func (s *system) taken(l leg, x []api.Ival) path {
	trap := s.trap(l, x)
	rates, slopes, code := s.grad(l.times, trap)
	fault.Check(code)
	held := s.drift(l, x, rates)
	rows, code := jet.Solve(s.f, l.times, trap, s.p, order, s.bits)
	if code != api.OK {
		return held
	}
	var rests []api.Ival
	for _, row := range rows {
		rests = append(rests, row[order])
	}
	held = nearer(held, func() path { return s.along(l, s.series(l, x, rests)) })
	return nearer(held, func() path { return s.mean(l, x, rests, slopes) })
}

// trap is a box that a step from x doesn't leave: with the rates on it, it leads to nothing but this box at all its times. So there is a solution there; and just one, if there are derivatives on it.
func (s *system) trap(l leg, x []api.Ival) []api.Ival {
	wide := widened(s.led(l, x, x), x)
	for range mostRounds {
		trap := s.led(l, x, wide)
		if box.Within(trap, wide) {
			return s.led(l, x, trap)
		}
		wider := widened(trap, x)
		for k := range wide {
			// What doesn't lead out stays as it is, else it would grow with what does.
			if !box.Within(trap[k:k+1], wide[k:k+1]) {
				wide[k] = wider[k]
			}
		}
	}
	panic(fault.Code(api.ErrStep))
}

// led is where a step from x leads at all its times, if it has the rates that there are on a box.
func (s *system) led(l leg, x, where []api.Ival) []api.Ival {
	rates := fault.Must(tape.Eval(s.f, api.Env{T: l.times, X: where, P: s.p}, s.bits))
	return s.drift(l, x, rates).way
}

// around are the rates that what begins in x has at all times: those on the box that is 1/2 greater, if they don't lead out of it. Where these are small the document asks for solutions, whatever f is elsewhere: on a smaller box it may have an error, of too many limbs.
func (s *system) around(x []api.Ival, span api.Ival) []api.Ival {
	begin, wide := reckon.Rounded(x, s.bits), reckon.Wider(x, s.bits)
	rates, _, code := s.grad(api.Ival{Lo: s.from, Hi: s.to}, wide)
	fault.Check(code)
	all := leg{long: span, within: api.Ival{Hi: span.Hi}}
	if !box.Within(s.drift(all, begin, rates).way, wide) {
		panic(fault.Code(api.ErrStep))
	}
	return rates
}

// grad is x' at all of these times on a box, and its derivatives by the states.
func (s *system) grad(times api.Ival, where []api.Ival) ([]api.Ival, [][]api.Ival, int) {
	return slope.Grad(s.f, api.Env{T: times, X: where, P: s.p}, s.bits)
}

// drift is where a step from x leads, if its rates are these.
func (s *system) drift(l leg, x, rates []api.Ival) path {
	var rows [][]api.Ival
	for k := range x {
		rows = append(rows, []api.Ival{x[k], rates[k]})
	}
	return s.along(l, rows)
}

// series are Taylor's coefficients of what begins in x, with these rests.
func (s *system) series(l leg, x, rests []api.Ival) [][]api.Ival {
	rows := fault.Must(jet.Solve(s.f, l.begin, x, s.p, order-1, s.bits))
	for k := range rows {
		rows[k] = append(rows[k], rests[k])
	}
	return rows
}

// along is where a step leads by the sums of series.
func (s *system) along(l leg, rows [][]api.Ival) path {
	var held path
	for _, row := range rows {
		held.end = append(held.end, reckon.Sum(row, l.long, s.bits))
		held.way = append(held.way, reckon.Sum(row, l.within, s.bits))
	}
	return held
}

// nearer is what is in held, and in what another way tells, if that tells anything.
func nearer(held path, tell func() path) path {
	other, code := fault.Told(tell)
	if code != api.OK {
		return held
	}
	return path{fault.Must(box.Meet(held.end, other.end)), fault.Must(box.Meet(held.way, other.way))}
}

// widened is b, which holds x, with half as much more on each side as it is wider than x.
func widened(b, x []api.Ival) []api.Ival {
	var wide []api.Ival
	for k := range b {
		more := fault.Must(dyad.Sub(fault.Must(box.Width(b[k:k+1])), fault.Must(box.Width(x[k:k+1]))))
		wide = append(wide, fault.Must(reckon.Grown(b[k], fault.Must(dyad.Shift(more, -1)))))
	}
	return wide
}
