package flow

import (
	"sluiceway/api"
	"sluiceway/box"
	"sluiceway/dyad"
	"sluiceway/fault"
	"sluiceway/reckon"
)

const (
	// mostHalves is how often the greatest step is halved.
	mostHalves = 16
	// mostTries is how many steps are tried on a trip: where that is too few, they would have to be too small.
	mostTries = 1024
	// calmSteps is how many steps of a size are gone ahead of a greater one: so few are tried in vain.
	calmSteps = 4
	// shortBits is how many bits the greatest step has, so that many of them together have few.
	shortBits = 32
	// clockBits is how many bits times are reckoned to: as many as a tape takes.
	clockBits = 300
)

// trip is how far one has come.
type trip struct {
	*system
	path
	// span is how much time there is, and gone how much of it has gone by.
	span api.Ival
	gone api.Dyad
	// rates are what x' may be at all times, if that is known ahead.
	rates []api.Ival
	// greatest is the greatest step, halves how often it is halved now, calm for how many steps it has been so.
	greatest     api.Dyad
	halves, calm int
	// tries is how many steps have been tried.
	tries int
}

// leg is the time of a step.
type leg struct {
	// begin is about its first time, and times are all of them.
	begin, times api.Ival
	// long is about how long it takes to its end, and within to any time of it.
	long, within api.Ival
	last         bool
}

// solve is where the solutions are that begin in x, with steps of at most h.
func (s *system) solve(x []api.Ival, h api.Dyad) path {
	t := s.start(x, h)
	for {
		l, held := t.step()
		t.end, t.way = held.end, fault.Must(box.Hull(t.way, held.way))
		if l.last {
			return t.path
		}
		t.gone = fault.Must(dyad.Add(t.gone, l.long.Lo))
		t.lengthen()
	}
}

// start is a trip from x, which has not gone any way yet.
func (s *system) start(x []api.Ival, h api.Dyad) *trip {
	begin, span := reckon.Rounded(x, s.bits), reckon.Span(s.from, s.to)
	t := &trip{system: s, path: path{begin, begin}, span: span}
	if dyad.Cmp(h, span.Hi) < 0 {
		t.greatest = short(h).Lo
	} else {
		t.greatest = short(span.Hi).Hi
	}
	t.rates, _ = fault.Told(func() []api.Ival { return s.around(x, span) })
	return t
}

// step is the next step, of the greatest size that there is a way for, and where it leads.
func (t *trip) step() (leg, path) {
	code := api.ErrStep
smaller:
	for t.tries < mostTries {
		t.tries++
		l := t.leg()
		var held path
		held, code = t.tried(l)
		switch {
		case code == api.OK:
			return l, held
		case code == api.ErrStep && t.halve():
			continue smaller
		default:
			break smaller
		}
	}
	if t.rates == nil {
		panic(fault.Code(code))
	}
	// What is known ahead holds for steps of any size.
	t.halves = 0
	l := t.leg()
	return l, t.drift(l, t.end, t.rates)
}

// halve lets the steps be half as long, if they may be.
func (t *trip) halve() bool {
	t.halves++
	t.calm = 0
	_, code := dyad.Shift(t.greatest, -t.halves)
	return code == api.OK && t.halves <= mostHalves
}

// lengthen lets the steps be twice as long again, if they have been as they are for long enough.
func (t *trip) lengthen() {
	t.calm++
	if t.halves > 0 && t.calm >= calmSteps {
		t.halves--
		t.calm = 0
	}
}

// leg is the step that comes next, of the size that steps have now, or of what is left.
func (t *trip) leg() leg {
	size := fault.Must(dyad.Shift(t.greatest, -t.halves))
	behind := fault.Must(dyad.Add(t.gone, size))
	l := leg{begin: t.clock(t.gone), long: reckon.Only(size), last: dyad.Cmp(behind, t.span.Lo) >= 0}
	l.times.Lo = l.begin.Lo
	if l.last {
		l.long = api.Ival{Lo: fault.Must(dyad.Sub(t.span.Lo, t.gone)), Hi: fault.Must(dyad.Sub(t.span.Hi, t.gone))}
		l.times.Hi = t.to
	} else {
		l.times.Hi = t.clock(behind).Hi
	}
	l.within.Hi = l.long.Hi
	return l
}

// tried is where a step leads: ErrStep, if a smaller one may lead further, else the error that there is at its beginning.
func (t *trip) tried(l leg) (path, int) {
	_, _, code := t.grad(l.begin, t.end)
	if code != api.OK {
		return path{}, code
	}
	held, code := fault.Told(func() path {
		held := t.taken(l, t.end)
		if t.rates != nil {
			held = nearer(held, func() path { return t.drift(l, t.end, t.rates) })
		}
		return held
	})
	if code != api.OK {
		return path{}, api.ErrStep
	}
	return held, api.OK
}

// clock is about the time when so much time has gone by.
func (s *system) clock(gone api.Dyad) api.Ival {
	lines := append(reckon.Pars(2), api.Line{Op: api.OAdd, A: 0, B: 1})
	return reckon.Value(lines, 2, api.Ival{}, reckon.Blunted([]api.Ival{reckon.Only(s.from), reckon.Only(gone)}), clockBits)
}

// short is about d, with ends of few bits.
func short(d api.Dyad) api.Ival {
	return reckon.Value(reckon.Pars(1), 0, api.Ival{}, []api.Ival{reckon.Only(d)}, shortBits)
}
