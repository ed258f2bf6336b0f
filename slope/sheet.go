package slope

import (
	"slices"

	"sluiceway/api"
	"sluiceway/arith"
	"sluiceway/fault"
	"sluiceway/ival"
)

// sheet is what derivatives are reckoned from: the lines' values, and of each line its derivatives by now, by one state after the other, to so many bits.
type sheet struct {
	vals []api.Ival
	rows [][]api.Ival
	bits int
}

// reckon appends to the row of the line i, which is l, its next derivative: that by this state.
func (s *sheet) reckon(i int, l api.Line, state int) int {
	d, code := fault.Told(func() api.Ival { return s.next(i, l, state) })
	if code == api.OK {
		s.rows[i] = append(s.rows[i], d)
	}
	return code
}

// told are of these lines the values, and the derivatives by all states, of which each is like one that is reckoned.
func (s *sheet) told(lines, like []int) ([]api.Ival, [][]api.Ival) {
	var vals []api.Ival
	var rows [][]api.Ival
	for _, line := range lines {
		// A line may be told more than once, and a derivative for many states: each time in memory of its own.
		vals = append(vals, own(s.vals[line]))
		row := make([]api.Ival, len(like))
		for state, n := range like {
			row[state] = own(s.rows[line][n])
		}
		rows = append(rows, row)
	}
	return vals, rows
}

// next is the derivative by this state of the line i, which is l: the one behind those that it has by now.
func (s *sheet) next(i int, l api.Line, state int) api.Ival {
	switch l.Op {
	case api.OConst, api.OTime, api.OIn, api.OPar:
		return api.Ival{}
	case api.OState:
		if l.A == state {
			return power(0)
		}
		return api.Ival{}
	}
	n := len(s.rows[i])
	// A line that leans on one alone has no B: then b is the first line's, and isn't asked for.
	a, b, c := s.vals[l.A], s.vals[l.B], s.vals[i]
	da, db := s.rows[l.A][n], s.rows[l.B][n]
	switch l.Op {
	case api.OAdd:
		return s.add(da, db)
	case api.OSub:
		return s.sub(da, db)
	case api.OMul:
		return s.add(s.mul(da, b), s.mul(a, db))
	case api.ODiv:
		return s.div(s.sub(da, s.mul(c, db)), b)
	case api.ONeg:
		return fault.Must(arith.Neg(da, s.bits))
	case api.OSqr:
		return s.mul(s.mul(power(1), a), da)
	case api.OSqrt:
		return s.div(da, s.mul(power(1), c))
	case api.OExp:
		return s.mul(c, da)
	}
	// There is no other line that may be.
	panic(fault.Code(api.ErrArg))
}

// add is a and b together.
func (s *sheet) add(a, b api.Ival) api.Ival {
	return fault.Must(arith.Add(a, b, s.bits))
}

// sub is a less b.
func (s *sheet) sub(a, b api.Ival) api.Ival {
	return fault.Must(arith.Sub(a, b, s.bits))
}

// mul is a times b.
func (s *sheet) mul(a, b api.Ival) api.Ival {
	return fault.Must(arith.Mul(a, b, s.bits))
}

// div is a divided by b.
func (s *sheet) div(a, b api.Ival) api.Ival {
	return fault.Must(arith.Div(a, b, s.bits))
}

// power is the interval of 2^e alone.
func power(e int) api.Ival {
	return ival.Of(api.Dyad{M: []uint64{1}, E: e})
}

// own is a in memory of its own.
func own(a api.Ival) api.Ival {
	a.Lo.M = slices.Clone(a.Lo.M)
	a.Hi.M = slices.Clone(a.Hi.M)
	return a
}
