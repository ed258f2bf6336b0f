package unit

import (
	"sluiceway/api"
	"sluiceway/box"
	"sluiceway/fault"
	"sluiceway/reckon"
	"sluiceway/tube"
)

const (
	// mostHalves is how often a piece is halved.
	mostHalves = 16
	// mostTries is how many steps are tried: where that is too few, they would have to be too small.
	mostTries = 2048
)

// trip is how far one has come.
type trip struct {
	*part
	// at is the time, and x where the state is then.
	at api.Dyad
	x  []api.Ival
	// tries is how many steps have been tried.
	tries int
}

// run is where the state is at the end, if it begins in x, and where the outs are till then.
func (s *part) run(x []api.Ival) held {
	begin := reckon.Rounded(x, s.fine())
	// Without this all may be told as well, step by step.
	s.sure, _ = fault.Told(func() sure { return s.ahead(x, begin) })
	t := &trip{part: s, at: s.from, x: begin}
	cuts := s.cuts()
	outs := make([]api.Tube, len(s.g.Outs))
	for _, cut := range cuts[1:] {
		for k, v := range t.through(cut) {
			outs[k].V = append(outs[k].V, v)
		}
	}
	for k, out := range outs {
		// Each has times of its own.
		outs[k] = fault.Must(tube.Cut(api.Tube{At: cuts, V: out.V}, s.from, s.to))
	}
	return held{reckon.Rounded(t.x, s.bits), outs}
}

// through goes on to the end of a piece, and tells where the outs are on the way.
func (t *trip) through(end api.Dyad) []api.Ival {
	u := t.inputs(t.at, end)
	var outs []api.Ival
	ends := []api.Dyad{end}
further:
	for len(ends) > 0 {
		for len(ends) <= mostHalves+1 && t.tries < mostTries {
			t.tries++
			l := over(t.at, ends[len(ends)-1], u)
			way, code := t.tried(l, t.x)
			switch code {
			case api.OK:
				t.at, t.x, outs = l.to, way.end, together(outs, way.outs)
				ends = ends[:len(ends)-1]
				continue further
			case api.ErrStep:
				ends = append(ends, fault.Must(middle(l.from, l.to)))
			default:
				panic(fault.Code(code))
			}
		}
		panic(fault.Code(api.ErrStep))
	}
	return outs
}

// together are the hulls of each with each, if there are some already.
func together(outs, more []api.Ival) []api.Ival {
	if outs == nil {
		return more
	}
	return fault.Must(box.Hull(outs, more))
}
