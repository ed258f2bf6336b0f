package unit

import (
	"sluiceway/api"
	"sluiceway/box"
	"sluiceway/dyad"
	"sluiceway/fault"
	"sluiceway/reckon"
	"sluiceway/tape"
)

// moreBits is how many bits more than are asked for places are reckoned to: of many steps each rounds them.
const moreBits = 32

// step is a time that is gone over at once, and where the inputs are in it.
type step struct {
	from, to api.Dyad
	// long is about how long it takes to its end, and within to any time of it.
	long, within api.Ival
	u            []api.Ival
}

// path is where the state is at the end of a step and all the way, and where the outs are all the way.
type path struct{ end, way, outs []api.Ival }

// sure is what is known of all times ahead: which rates there are, and where the outs are.
type sure struct {
	rates, outs []api.Ival
	// moves and tells are whether rates and outs are known.
	moves, tells bool
}

// over is the step from one time to another.
func over(from, to api.Dyad, u []api.Ival) step {
	long := reckon.Span(from, to)
	return step{from, to, long, api.Ival{Hi: long.Hi}, u}
}

// middle is the number in the middle of two.
func middle(a, b api.Dyad) (api.Dyad, int) {
	return fault.Told(func() api.Dyad { return fault.Must(dyad.Shift(fault.Must(dyad.Add(a, b)), -1)) })
}

// value is what a tape's outs are in a step, where the state is in a box.
func (s *part) value(t api.Tape, l step, where []api.Ival) ([]api.Ival, int) {
	return tape.Eval(t, api.Env{T: api.Ival{Lo: l.from, Hi: l.to}, X: where, U: l.u, P: s.p}, s.bits)
}

// fine is how many bits places are reckoned to.
func (s *part) fine() int {
	return s.bits + moreBits
}

// ahead is what is known of all times, where x is about begin: by the box that is 1/2 greater than x, if the rates on it don't lead out of it. Where these are small the document asks for an answer, whatever f and g are elsewhere: on a smaller box they may have an error, of too many limbs.
func (s *part) ahead(x, begin []api.Ival) sure {
	all := over(s.from, s.to, s.inputs(s.from, s.to))
	wide := reckon.Wider(x, s.fine())
	rates := fault.Must(s.value(s.f, all, wide))
	if !box.Inside(s.drift(all, begin, rates), wide) {
		panic(fault.Code(api.ErrStep))
	}
	outs, code := s.value(s.g, all, wide)
	return sure{rates, outs, true, code == api.OK}
}

// tried is where a step from x leads: ErrStep, if a smaller one may lead further, else the error that there is at its beginning.
func (s *part) tried(l step, x []api.Ival) (path, int) {
	way, code := fault.Told(func() path { return s.taken(l, x) })
	if code == api.OK {
		return way, api.OK
	}
	first := over(l.from, l.from, l.u)
	for _, t := range []api.Tape{s.f, s.g} {
		if _, code := s.value(t, first, x); code != api.OK {
			return path{}, code
		}
	}
	return path{}, api.ErrStep
}

// taken is where a step from x leads.
func (s *part) taken(l step, x []api.Ival) path {
	rates := s.sure.rates
	if !s.sure.moves {
		rates = s.trapped(l, x)
	}
	way := s.moved(l, x, rates)
	way.outs = s.told(l, way.way)
	return way
}

// told is where the outs are in a step, where the state is in a box.
func (s *part) told(l step, where []api.Ival) []api.Ival {
	outs, code := s.value(s.g, l, where)
	switch {
	case !s.sure.tells:
		return fault.Must(outs, code)
	case code != api.OK:
		return s.sure.outs
	}
	return fault.Must(box.Meet(outs, s.sure.outs))
}

// trapped are the rates that there may be in a step from x: those on a box that they don't lead out of. There is a way then, since f is continuous on it; and none leaves it, for that would have to come to a side of it first, and is not led there.
func (s *part) trapped(l step, x []api.Ival) []api.Ival {
	wide := x
	// Of a row of states each of which leads the one ahead, the last one leads all of them.
	for range x {
		wide = s.widened(s.drift(l, x, fault.Must(s.value(s.f, l, wide))), x)
	}
	rates := fault.Must(s.value(s.f, l, wide))
	led := s.drift(l, x, rates)
	if !box.Inside(led, wide) || !calm(led, wide, x) {
		panic(fault.Code(api.ErrStep))
	}
	return rates
}

// calm tells whether led is in all rows wider than x by no more than 3/4 of what wide is. With more than that there would be a box too, but one on which rates tell little of what they are where the state is.
func calm(led, wide, x []api.Ival) bool {
	for k := range x {
		most := excess(wide, x, k)
		most = fault.Must(dyad.Sub(most, fault.Must(dyad.Shift(most, -2))))
		if dyad.Cmp(excess(led, x, k), most) > 0 {
			return false
		}
	}
	return true
}

// drift is where a step from x leads at all its times, if its rates are these.
func (s *part) drift(l step, x, rates []api.Ival) []api.Ival {
	var way []api.Ival
	for k := range x {
		way = append(way, s.led(x[k], rates[k], l.within))
	}
	return way
}

// led is where what begins in a is after a time, if its rates are these.
func (s *part) led(a, rates, time api.Ival) api.Ival {
	return reckon.Sum([]api.Ival{a, rates}, time, s.fine())
}

// widened is b, which holds x, with half as much more on each side as it is wider than x; and more than b in any case.
func (s *part) widened(b, x []api.Ival) []api.Ival {
	var wide []api.Ival
	for k := range b {
		more := greater(fault.Must(dyad.Shift(excess(b, x, k), -1)), s.next(b[k]))
		wide = append(wide, fault.Must(reckon.Grown(b[k], more)))
	}
	return wide
}

// excess is how much wider the row k of b is than that of x.
func excess(b, x []api.Ival, k int) api.Dyad {
	return fault.Must(dyad.Sub(fault.Must(box.Width(b[k:k+1])), fault.Must(box.Width(x[k:k+1]))))
}

// next is how far apart numbers of a's size are by their last bits; above 0.
func (s *part) next(a api.Ival) api.Dyad {
	return greater(fault.Must(dyad.Shift(reckon.Size(a), -s.bits)), reckon.Least())
}

// greater is the greater one of both.
func greater(a, b api.Dyad) api.Dyad {
	if dyad.Cmp(a, b) < 0 {
		return b
	}
	return a
}
