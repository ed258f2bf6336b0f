package unit

import (
	"slices"

	"sluiceway/api"
	"sluiceway/dyad"
	"sluiceway/fault"
	"sluiceway/reckon"
)

const (
	// mostRounds is how often sides are slowed down at most.
	mostRounds = 16
	// little is how much slower a side must get to ask for another round, as a part of how much the rates on it differ: 2 to this power.
	little = -6
)

// side is a side of a box in a step. Of a lower side all numbers have the other sign, so that each is an upper one.
type side struct {
	// row is which state's it is.
	row   int
	lower bool
	begin api.Dyad
	// fast is how fast it moves: no state goes beyond that. It may be found to move slower, but not below slow, which is not above 0.
	fast, slow api.Dyad
	// way is where it is all the way, if it moves as slow as that, or faster up to as fast as that.
	way api.Ival
}

// moved is where a step from x leads, if its rates are these. Each side is moved by the rates of what is on it alone: so boxes grow narrow where states are led to each other.
func (s *part) moved(l step, x, rates []api.Ival) path {
	var sides []side
	for k := range x {
		for _, lower := range []bool{true, false} {
			sides = append(sides, s.side(l, side{row: k, lower: lower, begin: turned(x[k], lower).Hi}, turned(rates[k], lower)))
		}
	}
	onWay := func(a side) api.Dyad { return a.way.Hi }
	atEnd := func(a side) api.Dyad { return s.led(reckon.Only(a.begin), reckon.Only(a.fast), l.long).Hi }
	again := true
	for n := 0; again && n < mostRounds; n++ {
		way := between(sides, onWay)
		again = false
		for i, a := range sides {
			var much bool
			sides[i], much = s.slowed(l, way, a)
			again = again || much
		}
	}
	return path{end: between(sides, atEnd), way: between(sides, onWay)}
}

// side is a with its way, if it moves as fast as these rates.
func (s *part) side(l step, a side, rates api.Ival) side {
	a.fast, a.slow = rates.Hi, rates.Lo
	if !a.slow.Neg {
		a.slow = api.Dyad{}
	}
	a.way = s.led(reckon.Only(a.begin), api.Ival{Lo: a.slow, Hi: a.fast}, l.within)
	return a
}

// between is the box between sides, of which each state has a lower and an upper one, if a side is where that tells.
func between(sides []side, where func(a side) api.Dyad) []api.Ival {
	var all []api.Ival
	for pair := range slices.Chunk(sides, 2) {
		all = append(all, api.Ival{Lo: dyad.Neg(where(pair[0])), Hi: where(pair[1])})
	}
	return all
}

// turned is a; with the other sign, if that is asked for.
func turned(a api.Ival, asked bool) api.Ival {
	if asked {
		return api.Ival{Lo: dyad.Neg(a.Hi), Hi: dyad.Neg(a.Lo)}
	}
	return a
}

// slowed is a as slow as the rates on it tell, while the other states are on their way, and whether that is much slower: to go beyond a side that moves faster than the rates on it, a state would have to come to it first, and then has these rates.
func (s *part) slowed(l step, way []api.Ival, a side) (side, bool) {
	where := slices.Clone(way)
	where[a.row] = turned(a.way, a.lower)
	values, code := s.value(s.alone[a.row], l, where)
	if code != api.OK {
		return a, false
	}
	rates := turned(values[0], a.lower)
	if dyad.Cmp(rates.Hi, a.fast) >= 0 {
		return a, false
	}
	slow, code := middle(a.slow, rates.Hi)
	if code != api.OK {
		slow = a.slow
	}
	b := s.side(l, a, api.Ival{Lo: slow, Hi: greater(rates.Hi, a.slow)})
	return b, less(b.fast, a.fast, rates)
}

// less tells whether a is less than b by more than a little of what rates differ.
func less(a, b api.Dyad, rates api.Ival) bool {
	much, _ := fault.Told(func() bool {
		differ := fault.Must(dyad.Sub(rates.Hi, rates.Lo))
		return dyad.Cmp(fault.Must(dyad.Sub(b, a)), fault.Must(dyad.Shift(differ, little))) > 0
	})
	return much
}
