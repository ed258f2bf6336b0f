package unit

import (
	"slices"

	"sluiceway/api"
	"sluiceway/dyad"
	"sluiceway/fault"
	"sluiceway/tube"
)

// finest is into how many pieces the time is cut, as a power of 2, if it may be: an out changes in each, so tubes of more cells are narrower.
const finest = 4

// cuts are the times that pieces begin and end at: those of the inputs' cells, and some at even distances, as far as a tube may have as many.
func (s *part) cuts() []api.Dyad {
	times := []api.Dyad{s.from, s.to}
	for _, u := range s.u {
		times = append(times, u.At...)
	}
	times = ordered(times)
	for n := finest; n > 0; n-- {
		even, code := fault.Told(func() []api.Dyad { return s.even(n) })
		both := ordered(slices.Concat(times, even))
		if code == api.OK && len(both) <= api.MaxCells+1 {
			return both
		}
	}
	return thinned(times)
}

// even are the times that cut all the time into 2^n pieces.
func (s *part) even(n int) []api.Dyad {
	size := fault.Must(dyad.Shift(fault.Must(dyad.Sub(s.to, s.from)), -n))
	times := []api.Dyad{s.from}
	for k := range 1<<n - 1 {
		times = append(times, fault.Must(dyad.Add(times[k], size)))
	}
	return times
}

// ordered are these times in their order, each once.
func ordered(times []api.Dyad) []api.Dyad {
	slices.SortFunc(times, dyad.Cmp)
	return slices.CompactFunc(times, dyad.Same)
}

// thinned are the first and the last one of these times, and as many others, evenly taken, as a tube may have.
func thinned(times []api.Dyad) []api.Dyad {
	last := len(times) - 1
	apart := (last + api.MaxCells - 1) / api.MaxCells
	var some []api.Dyad
	for k := 0; k < last; k += apart {
		some = append(some, times[k])
	}
	return append(some, times[last])
}

// inputs are where the inputs are from one time to another. Cells that only begin or end there are left out: an input is continuous, so at that time too it is where the others tell.
func (s *part) inputs(from, to api.Dyad) []api.Ival {
	var all []api.Ival
	for _, u := range s.u {
		cells := fault.Must(tube.Cut(u, from, to))
		all = append(all, fault.Must(tube.Over(cells, from, to)))
	}
	return all
}
