package flow

import (
	"sluiceway/api"
	"sluiceway/box"
	"sluiceway/dyad"
	"sluiceway/fault"
	"sluiceway/reckon"
)

const (
	// powers is how many powers of derivatives are summed, from that of order 0 on.
	powers = 6
	// restExp is the power of 2 that 1 divided by n!, of all n from powers on together, is not above.
	restExp = -9
)

// mean is where a step from x leads by the mean value: from its middle by a series, and from elsewhere as much apart from that as derivatives by the beginning say. So boxes grow narrow where solutions draw near to each other.
func (s *system) mean(l leg, x, rests []api.Ival, slopes [][]api.Ival) path {
	middle := s.middle(x)
	if !box.Has(x, middle) {
		panic(fault.Code(api.ErrStep))
	}
	var begin, apart []api.Ival
	for k, d := range middle {
		begin = append(begin, reckon.Only(d))
		apart = append(apart, api.Ival{Lo: fault.Must(dyad.Sub(x[k].Lo, d)), Hi: fault.Must(dyad.Sub(x[k].Hi, d))})
	}
	held := s.along(l, s.series(l, begin, rests))
	for i, row := range s.moves(l, slopes) {
		by := s.along(l, row)
		held.end[i] = s.moved(held.end[i], by.end, apart)
		held.way[i] = s.moved(held.way[i], by.way, apart)
	}
	return held
}

// moved is a, and what derivatives times a beginning apart are more than it.
func (s *system) moved(a api.Ival, derivatives, apart []api.Ival) api.Ival {
	more := reckon.Share(derivatives, apart, 1, s.bits)
	return reckon.Sum([]api.Ival{a, more}, reckon.Whole(1), s.bits)
}

// middle is about the middle of x.
func (s *system) middle(x []api.Ival) []api.Dyad {
	var middle []api.Dyad
	for _, a := range x {
		d := fault.Must(dyad.Shift(fault.Must(dyad.Add(a.Lo, a.Hi)), -1))
		middle = append(middle, reckon.Rounded([]api.Ival{reckon.Only(d)}, s.bits)[0].Lo)
	}
	return middle
}

// moves are, of each state and by each one's beginning, the coefficients of the derivative of where it comes to: of order 0 that is 1 by its own, else 0. The derivatives change, by the time, as the rates' derivatives times all of them say; and those are in slopes at all times, whichever they are: so each order comes of the one below it.
func (s *system) moves(l leg, slopes [][]api.Ival) [][][]api.Ival {
	rest := s.rest(l, slopes)
	moves := make([][][]api.Ival, len(slopes))
	for j := range slopes {
		column := make([]api.Ival, len(slopes))
		column[j] = reckon.Whole(1)
		for i := range moves {
			moves[i] = append(moves[i], []api.Ival{column[i]})
		}
		for k := 1; k < powers; k++ {
			column = s.times(slopes, column, k)
			for i := range moves {
				moves[i][j] = append(moves[i][j], column[i])
			}
		}
		for i := range moves {
			moves[i][j] = append(moves[i][j], rest)
		}
	}
	return moves
}

// times is slopes times a column, divided by n.
func (s *system) times(slopes [][]api.Ival, column []api.Ival, n int) []api.Ival {
	var all []api.Ival
	for _, row := range slopes {
		all = append(all, reckon.Share(row, column, n, s.bits))
	}
	return all
}

// rest is what the coefficients of all orders that are not summed come to, as one of the first of these orders, in a step that is so short that they vanish soon.
func (s *system) rest(l leg, slopes [][]api.Ival) api.Ival {
	norm := s.norm(slopes)
	if dyad.Cmp(reckon.Share([]api.Ival{reckon.Only(norm)}, []api.Ival{l.long}, 1, s.bits).Hi, reckon.Whole(1).Hi) > 0 {
		panic(fault.Code(api.ErrStep))
	}
	most := fault.Must(dyad.Of(1, restExp))
	for range powers {
		most = fault.Must(dyad.Mul(most, norm))
	}
	return api.Ival{Lo: dyad.Neg(most), Hi: most}
}

// norm is not below what the derivatives of any one rate are together, without their signs: so no power's are above that power of it.
func (s *system) norm(slopes [][]api.Ival) api.Dyad {
	var norm api.Dyad
	for _, row := range slopes {
		var all api.Dyad
		for _, a := range reckon.Blunted(row) {
			all = fault.Must(dyad.Add(all, reckon.Size(a)))
		}
		if dyad.Cmp(all, norm) > 0 {
			norm = all
		}
	}
	return reckon.Rounded([]api.Ival{reckon.Only(norm)}, s.bits)[0].Hi
}
