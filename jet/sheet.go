package jet

import (
	"math/bits"
	"slices"

	"sluiceway/api"
	"sluiceway/arith"
	"sluiceway/expo"
	"sluiceway/fault"
	"sluiceway/ival"
)

// sheet is what lines are reckoned from, and of each line the coefficients that are reckoned by now, to so many bits.
type sheet struct {
	time []api.Ival
	x, p [][]api.Ival
	rows [][]api.Ival
	bits int
}

// reckon appends to the row of the line i, which is l, its next coefficient.
func (s *sheet) reckon(i int, l api.Line) int {
	c, code := fault.Told(func() api.Ival { return s.next(l, s.rows[i]) })
	if code == api.OK {
		s.rows[i] = append(s.rows[i], c)
	}
	return code
}

// told are the rows of these lines.
func (s *sheet) told(lines []int) [][]api.Ival {
	var rows [][]api.Ival
	for _, line := range lines {
		// A line may be told more than once: each time in memory of its own.
		row := slices.Clone(s.rows[line])
		for n := range row {
			row[n].Lo.M = slices.Clone(row[n].Lo.M)
			row[n].Hi.M = slices.Clone(row[n].Hi.M)
		}
		rows = append(rows, row)
	}
	return rows
}

// next is l's coefficient behind those that it has by now, c.
func (s *sheet) next(l api.Line, c []api.Ival) api.Ival {
	n := len(c)
	switch l.Op {
	case api.OConst:
		if n > 0 {
			return api.Ival{}
		}
		return s.round(l.K)
	case api.OTime:
		return s.round(s.time[n])
	case api.OState:
		return s.round(s.x[l.A][n])
	case api.OPar:
		return s.round(s.p[l.A][n])
	}
	// A line that leans on one alone has no B: then b is the first line's, and isn't asked for.
	a, b := s.rows[l.A], s.rows[l.B]
	switch l.Op {
	case api.OAdd:
		return s.add(a[n], b[n])
	case api.OSub:
		return s.sub(a[n], b[n])
	case api.OMul:
		return s.product(a, b, n)
	case api.ODiv:
		return s.quotient(a, b, c)
	case api.ONeg:
		return fault.Must(arith.Neg(a[n], s.bits))
	case api.OSqr:
		return s.square(a, n)
	case api.OSqrt:
		return s.root(a, c)
	case api.OExp:
		return s.power(a, c)
	}
	// There is no other line that may be.
	panic(fault.Code(api.ErrArg))
}

// product is the coefficient n of a times b.
func (s *sheet) product(a, b []api.Ival, n int) api.Ival {
	return s.sum(0, n, func(j int) api.Ival { return s.mul(a[j], b[n-j]) })
}

// square is the coefficient n of a times itself.
func (s *sheet) square(a []api.Ival, n int) api.Ival {
	if n == 0 {
		return fault.Must(arith.Sqr(a[0], s.bits))
	}
	return s.product(a, a, n)
}

// quotient is the next coefficient of c, which is a divided by b: for a is b times c.
func (s *sheet) quotient(a, b, c []api.Ival) api.Ival {
	n := len(c)
	rest := s.less(a[n], n, func(j int) api.Ival { return s.mul(b[j], c[n-j]) })
	return s.div(rest, b[0])
}

// root is the next coefficient of c, which is the square root of a: for a is c times c.
func (s *sheet) root(a, c []api.Ival) api.Ival {
	n := len(c)
	if n == 0 {
		return fault.Must(arith.Sqrt(a[0], s.bits))
	}
	rest := s.less(a[n], n-1, func(j int) api.Ival { return s.mul(c[j], c[n-j]) })
	return s.div(rest, s.add(c[0], c[0]))
}

// power is the next coefficient of c, which is e to the power of a: for its derivative is a's times c.
func (s *sheet) power(a, c []api.Ival) api.Ival {
	n := len(c)
	if n == 0 {
		return fault.Must(expo.Over(a[0], s.bits))
	}
	slope := s.sum(1, n, func(j int) api.Ival { return s.mul(s.mul(whole(j), a[j]), c[n-j]) })
	return s.div(slope, whole(n))
}

// sum is the terms from first to last, which is not below it, added one by one.
func (s *sheet) sum(first, last int, term func(j int) api.Ival) api.Ival {
	all := term(first)
	for j := first + 1; j <= last; j++ {
		all = s.add(all, term(j))
	}
	return all
}

// less is a less the terms from 1 to last, one by one.
func (s *sheet) less(a api.Ival, last int, term func(j int) api.Ival) api.Ival {
	for j := 1; j <= last; j++ {
		a = s.sub(a, term(j))
	}
	return a
}

// round is a with ends of so many bits.
func (s *sheet) round(a api.Ival) api.Ival {
	return fault.Must(ival.Round(a, s.bits))
}

// add is a and b together.
func (s *sheet) add(a, b api.Ival) api.Ival {
	return fault.Must(arith.Add(a, b, s.bits))
}

// sub is a less b.
func (s *sheet) sub(a, b api.Ival) api.Ival {
	return fault.Must(arith.Sub(a, b, s.bits))
}

// mul is a times b.
func (s *sheet) mul(a, b api.Ival) api.Ival {
	return fault.Must(arith.Mul(a, b, s.bits))
}

// div is a divided by b.
func (s *sheet) div(a, b api.Ival) api.Ival {
	return fault.Must(arith.Div(a, b, s.bits))
}

// whole is the interval of n alone, which is above 0.
func whole(n int) api.Ival {
	low := bits.TrailingZeros(uint(n))
	return ival.Of(api.Dyad{M: []uint64{uint64(n) >> low}, E: low})
}
