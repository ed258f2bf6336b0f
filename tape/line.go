package tape

import (
	"sluiceway/api"
	"sluiceway/arith"
	"sluiceway/expo"
	"sluiceway/ival"
)

// mayLine tells whether l may be, with so many lines above it, x states, u inputs and p parameters.
func mayLine(l api.Line, above, x, u, p int) bool {
	switch l.Op {
	case api.OConst:
		return ival.May(l.K) && l.A == 0 && l.B == 0
	case api.OTime:
		return l.A == 0 && l.B == 0 && bare(l)
	case api.OState:
		return below(l.A, x) && l.B == 0 && bare(l)
	case api.OIn:
		return below(l.A, u) && l.B == 0 && bare(l)
	case api.OPar:
		return below(l.A, p) && l.B == 0 && bare(l)
	case api.OAdd, api.OSub, api.OMul, api.ODiv:
		return below(l.A, above) && below(l.B, above) && bare(l)
	case api.ONeg, api.OSqr, api.OSqrt, api.OExp:
		return below(l.A, above) && l.B == 0 && bare(l)
	}
	return false
}

// below tells whether k is one of n things, which are numbered from 0 on.
func below(k, n int) bool {
	return 0 <= k && k < n
}

// bare tells whether l has no K.
func bare(l api.Line) bool {
	return ival.Same(l.K, api.Ival{})
}

// operands are the numbers of the lines that l, which may be, is reckoned from.
func operands(l api.Line) []int {
	switch l.Op {
	case api.OAdd, api.OSub, api.OMul, api.ODiv:
		return []int{l.A, l.B}
	case api.ONeg, api.OSqr, api.OSqrt, api.OExp:
		return []int{l.A}
	}
	return nil
}

// value is l's value to p bits, where the lines above it have these.
func value(l api.Line, above []api.Ival, e api.Env, p int) (api.Ival, int) {
	switch l.Op {
	case api.OConst:
		return ival.Round(l.K, p)
	case api.OTime:
		return ival.Round(e.T, p)
	case api.OState:
		return ival.Round(e.X[l.A], p)
	case api.OIn:
		return ival.Round(e.U[l.A], p)
	case api.OPar:
		return ival.Round(e.P[l.A], p)
	case api.OAdd:
		return arith.Add(above[l.A], above[l.B], p)
	case api.OSub:
		return arith.Sub(above[l.A], above[l.B], p)
	case api.OMul:
		return arith.Mul(above[l.A], above[l.B], p)
	case api.ODiv:
		return arith.Div(above[l.A], above[l.B], p)
	case api.ONeg:
		return arith.Neg(above[l.A], p)
	case api.OSqr:
		return arith.Sqr(above[l.A], p)
	case api.OSqrt:
		return arith.Sqrt(above[l.A], p)
	case api.OExp:
		return expo.Over(above[l.A], p)
	}
	// There is no other line that may be.
	return api.Ival{}, api.ErrArg
}
