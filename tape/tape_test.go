package tape_test

import (
	"maps"
	"math"
	"math/big"
	"math/rand/v2"
	"slices"
	"testing"

	"sluiceway/api"
	"sluiceway/arith"
	"sluiceway/expo"
	"sluiceway/ival"
	"sluiceway/round"
	"sluiceway/tape"
)

const (
	maxExp   = api.MaxExp
	maxLines = api.MaxLines
	// most is how many bits may be asked for.
	most = 300
)

var one = big.NewInt(1)

// precs are numbers of bits that may be.
var precs = []int{1, 2, 3, 20, 53, 64, 65, 299, most}

// badPrecs are numbers of bits that may not be.
var badPrecs = []int{0, -1, most + 1, api.MaxPrec, api.MaxPrec + 1, math.MaxInt, math.MinInt}

// badDyads are Dyads that may not be, each for one reason.
var badDyads = []api.Dyad{
	{Neg: true},
	{E: 1},
	{M: []uint64{0}},
	{M: []uint64{6}},
	{M: []uint64{0, 1}, Neg: true},
	{M: []uint64{1, 0}},
	{M: slices.Repeat([]uint64{1}, api.MaxLimbs+1)},
	{M: []uint64{1}, E: maxExp + 1},
	{M: []uint64{1}, E: -maxExp - 1, Neg: true},
	{M: []uint64{3}, E: math.MinInt},
}

// bad are intervals that may not be: for an end, or for their order.
func bad() []api.Ival {
	var all []api.Ival
	for _, d := range badDyads {
		all = append(all, from(d, d), from(of(-9, 0), d), from(d, of(9, 0)))
	}
	return append(all, span(3, 1, 0), span(1, 0, 0), span(0, -1, -maxExp))
}

// noughts are intervals of 0 alone, which are the same.
func noughts() []api.Ival {
	empty := api.Dyad{M: []uint64{}}
	return []api.Ival{{}, from(empty, empty), from(empty, api.Dyad{}), from(api.Dyad{}, empty)}
}

// is is the Dyad m times 2^e.
func is(m *big.Int, e int) api.Dyad {
	if m.Sign() == 0 {
		return api.Dyad{}
	}
	odd := new(big.Int).Abs(m)
	low := odd.TrailingZeroBits()
	d := api.Dyad{Neg: m.Sign() < 0, E: e + int(low)}
	for _, w := range odd.Rsh(odd, low).Bits() {
		d.M = append(d.M, uint64(w))
	}
	return d
}

// of is n times 2^e.
func of(n int64, e int) api.Dyad {
	return is(big.NewInt(n), e)
}

// from is from a to b.
func from(a, b api.Dyad) api.Ival {
	return api.Ival{Lo: a, Hi: b}
}

// span is from a to b, both times 2^e.
func span(a, b int64, e int) api.Ival {
	return from(of(a, e), of(b, e))
}

// alike tells whether two Dyads have the same parts, without asking the program.
func alike(a, b api.Dyad) bool {
	return a.Neg == b.Neg && a.E == b.E && slices.Equal(a.M, b.M)
}

// equal tells whether two intervals have the same parts.
func equal(a, b api.Ival) bool {
	return alike(a.Lo, b.Lo) && alike(a.Hi, b.Hi)
}

// row are lines, one behind the other.
func row(lines ...api.Line) []api.Line {
	return lines
}

// line is a line with an A and a B.
func line(op, a, b int) api.Line {
	return api.Line{Op: op, A: a, B: b}
}

// number is a line of a constant.
func number(k api.Ival) api.Line {
	return api.Line{Op: api.OConst, K: k}
}

// all are the numbers from 0 to less than n.
func all(n int) []int {
	var ks []int
	for k := range n {
		ks = append(ks, k)
	}
	return ks
}

// maker makes the same numbers at each run.
func maker(seed uint64) *rand.Rand {
	return rand.New(rand.NewPCG(seed, 0))
}

// shape is which parts of its line an operation names: what A and B are numbers of (x, u, p; l: lines above; none: nought), and whether it has a K.
type shape struct {
	a, b byte
	k    bool
}

const none = '-'

// shapes are all operations there are.
var shapes = map[int]shape{
	api.OConst: {none, none, true},
	api.OTime:  {none, none, false},
	api.OState: {'x', none, false},
	api.OIn:    {'u', none, false},
	api.OPar:   {'p', none, false},
	api.OAdd:   {'l', 'l', false},
	api.OSub:   {'l', 'l', false},
	api.OMul:   {'l', 'l', false},
	api.ODiv:   {'l', 'l', false},
	api.ONeg:   {'l', none, false},
	api.OSqr:   {'l', none, false},
	api.OSqrt:  {'l', none, false},
	api.OExp:   {'l', none, false},
}

// sizes are how many there are of what a line may name.
type sizes map[byte]int

// size is made of the numbers of states, inputs and parameters.
func size(x, u, p int) sizes {
	return sizes{'x': x, 'u': u, 'p': p}
}

// may tells whether k may be a part that names this.
func (s sizes) may(this byte, k int) bool {
	if this == none {
		return k == 0
	}
	return k >= 0 && k < s[this]
}

// mayBe tells whether a line may be, whose K may be if good, and is nought if bare.
func (s sizes) mayBe(l api.Line, good, bare bool) bool {
	f, ok := shapes[l.Op]
	return ok && s.may(f.a, l.A) && s.may(f.b, l.B) && (f.k && good || bare)
}

// grow makes a tape of n lines that may be, and as many outs as it has lines.
func grow(r *rand.Rand, n int, s sizes, k func() api.Ival) api.Tape {
	var t api.Tape
	pick := func(this byte) int {
		switch {
		case this == none:
			return 0
		case this == 'l' && r.IntN(2) == 0:
			// One of the last lines, so that tapes are deep.
			return max(0, len(t.Lines)-1-r.IntN(3))
		}
		return r.IntN(s[this])
	}
	ops := slices.Sorted(maps.Keys(shapes))
	for len(t.Lines) < n {
		s['l'] = len(t.Lines)
		op := ops[r.IntN(len(ops))]
		f := shapes[op]
		if f.a != none && s[f.a] == 0 {
			continue
		}
		l := line(op, pick(f.a), pick(f.b))
		if f.k {
			l.K = k()
		}
		t.Lines = append(t.Lines, l)
		t.Outs = append(t.Outs, r.IntN(len(t.Lines)))
	}
	return t
}

// TestExamples are those of the document, and the tape of its tests by hand.
func TestExamples(t *testing.T) {
	sum := api.Tape{Lines: row(line(api.OState, 0, 0), number(span(1, 1, 0)), line(api.OAdd, 0, 1)), Outs: []int{2}}
	e := api.Env{X: []api.Ival{span(0, 1, 0)}}
	for _, p := range precs {
		if got, code := tape.Eval(sum, e, p); code != api.OK || !slices.EqualFunc(got, []api.Ival{span(1, 2, 0)}, equal) {
			t.Errorf("x + 1 to %d bits: %v, %d", p, got, code)
		}
		want := []api.Ival{span(0, 1, 0), span(1, 1, 0), span(1, 2, 0)}
		if got, code := tape.Lines(sum, e, p); code != api.OK || !slices.EqualFunc(got, want, equal) {
			t.Errorf("the lines of x + 1 to %d bits: %v, %d", p, got, code)
		}
	}
}

// TestEach is every operation, by numbers that are known.
func TestEach(t *testing.T) {
	e := api.Env{T: span(-3, 5, 0), X: []api.Ival{span(1, 2, 0), span(6, 7, 0)}, U: []api.Ival{span(-1, 1, -1), span(9, 11, 0)}, P: []api.Ival{span(4, 9, 0), span(0, 0, 0)}}
	f := api.Tape{Lines: row(
		number(span(-5, 13, 0)), line(api.OTime, 0, 0), line(api.OState, 1, 0), line(api.OIn, 1, 0), line(api.OPar, 0, 0),
		line(api.OAdd, 1, 2), line(api.OSub, 1, 2), line(api.OMul, 1, 2), line(api.ODiv, 1, 4), line(api.ONeg, 2, 0),
		line(api.OSqr, 1, 0), line(api.OSqrt, 4, 0), line(api.OState, 0, 0), line(api.OExp, 12, 0), line(api.OIn, 0, 0), line(api.OPar, 1, 0))}
	f.Outs = all(len(f.Lines))
	// To three bits, which 9, 11, 13, 21, 25, 35 do not have.
	want := []api.Ival{span(-5, 14, 0), span(-3, 5, 0), span(6, 7, 0), span(8, 12, 0), span(4, 10, 0),
		span(3, 12, 0), span(-10, -1, 0), span(-24, 40, 0), span(-6, 10, -3), span(-7, -6, 0),
		span(0, 28, 0), span(4, 7, -1), span(1, 2, 0), span(5, 16, -1), span(-1, 1, -1), span(0, 0, 0)}
	want[11] = from(of(2, 0), of(7, -1)) // to the root of 10: 3.16
	want[13] = from(of(5, -1), of(8, 0)) // from 2.71 to 7.38
	got, code := tape.Lines(f, e, 3)
	if code != api.OK || len(got) != len(want) {
		t.Fatal(got, code)
	}
	for i, v := range got {
		if !equal(v, want[i]) {
			t.Errorf("line %d: %v; want %v", i, v, want[i])
		}
	}
	if outs, code := tape.Eval(f, e, 3); code != api.OK || !slices.EqualFunc(outs, want, equal) {
		t.Errorf("outs: %v, %d", outs, code)
	}
}

// TestMay holds every operation against what its line names, with each part right and wrong.
func TestMay(t *testing.T) {
	type constant struct {
		k          api.Ival
		good, bare bool
	}
	var ks []constant
	for _, k := range noughts() {
		ks = append(ks, constant{k, true, true})
	}
	for _, k := range []api.Ival{span(1, 1, 0), span(-1, 2, 0), span(0, 1, -maxExp), span(-1, 0, maxExp)} {
		ks = append(ks, constant{k, true, false})
	}
	for _, k := range bad() {
		ks = append(ks, constant{k, false, false})
	}
	numbers := []int{math.MinInt, -1, 0, 1, 2, 3, 4, math.MaxInt - 1, math.MaxInt}
	for op := -2; op <= 16; op++ {
		for _, a := range numbers {
			for _, b := range numbers {
				for _, k := range ks {
					for above := range 4 {
						for _, s := range []sizes{size(1, 2, 3), size(3, 1, 2), size(2, 3, 1), size(-1, math.MinInt, 0), size(math.MaxInt, math.MaxInt, math.MaxInt)} {
							l := api.Line{Op: op, A: a, B: b, K: k.k}
							s['l'] = above
							mayTry(t, l, s, s.mayBe(l, k.good, k.bare))
						}
					}
				}
			}
		}
	}
	for _, op := range []int{math.MinInt, math.MaxInt, 1 << 8, 1<<32 + 1} {
		mayTry(t, line(op, 0, 0), sizes{'x': 1, 'u': 1, 'p': 1, 'l': 1}, false)
	}
}

// mayTry asks for a tape of this line, with so many ahead of it and two behind it.
func mayTry(t *testing.T, l api.Line, s sizes, want bool) {
	t.Helper()
	f := api.Tape{Lines: append(slices.Repeat(row(line(api.OTime, 0, 0)), s['l']), l, line(api.OTime, 0, 0), line(api.OTime, 0, 0))}
	if got := tape.May(f, s['x'], s['u'], s['p']); got != want {
		t.Fatalf("May of %v, with %v: %v", l, s, got)
	}
}

// TestMayTapes: how many lines and outs there may be, and which outs.
func TestMayTapes(t *testing.T) {
	lines := slices.Repeat(row(line(api.OTime, 0, 0)), maxLines+1)
	for _, x := range []struct {
		t    api.Tape
		want bool
	}{
		{api.Tape{}, true},
		{api.Tape{Lines: row(), Outs: []int{}}, true},
		{api.Tape{Lines: lines[:1]}, true},
		{api.Tape{Lines: lines[:maxLines]}, true},
		{api.Tape{Lines: lines}, false},
		{api.Tape{Lines: lines[:maxLines], Outs: []int{maxLines - 1, 0, 0}}, true},
		{api.Tape{Lines: lines[:maxLines], Outs: []int{maxLines}}, false},
		{api.Tape{Lines: lines[:1], Outs: make([]int, maxLines)}, true},
		{api.Tape{Lines: lines[:1], Outs: make([]int, maxLines+1)}, false},
		{api.Tape{Outs: []int{0}}, false},
		{api.Tape{Lines: lines[:2], Outs: []int{1, 0}}, true},
		{api.Tape{Lines: lines[:2], Outs: []int{1, 0, 2}}, false},
		{api.Tape{Lines: lines[:2], Outs: []int{-1, 0}}, false},
		{api.Tape{Lines: lines[:2], Outs: []int{math.MaxInt}}, false},
		{api.Tape{Lines: lines[:2], Outs: []int{math.MinInt}}, false},
	} {
		for _, n := range []int{0, 1, -1, math.MaxInt, math.MinInt} {
			if got := tape.May(x.t, n, n, n); got != x.want {
				t.Errorf("May of %d lines with outs %v: %v", len(x.t.Lines), x.t.Outs, got)
			}
		}
	}
}

// TestMayWhole: tapes that are made to be may be, not so with one less of what a line asks for.
func TestMayWhole(t *testing.T) {
	r := maker(1)
	for range 500 {
		s := size(r.IntN(4), r.IntN(4), r.IntN(4))
		f := grow(r, 1+r.IntN(maxLines), s, func() api.Ival { return span(-1, 1, r.IntN(9)) })
		least := size(0, 0, 0)
		for _, l := range f.Lines {
			if this := shapes[l.Op].a; this != none && this != 'l' {
				least[this] = max(least[this], l.A+1)
			}
		}
		x, u, p := least['x'], least['u'], least['p']
		if !tape.May(f, s['x'], s['u'], s['p']) || !tape.May(f, x, u, p) {
			t.Fatal("May is false of", f)
		}
		if x > 0 && tape.May(f, x-1, u, p) || u > 0 && tape.May(f, x, u-1, p) || p > 0 && tape.May(f, x, u, p-1) {
			t.Fatal("May is true with too little for", f)
		}
	}
}

// leansOn are the inputs that a line leans on, rising, each once: those of the lines that it is reckoned from.
func leansOn(t api.Tape) [][]int {
	var ins [][]int
	for _, l := range t.Lines {
		var these []int
		f := shapes[l.Op]
		switch {
		case f.a == 'u':
			these = append(these, l.A)
		case f.b == 'l':
			these = slices.Concat(ins[l.A], ins[l.B])
		case f.a == 'l':
			these = slices.Clone(ins[l.A])
		}
		slices.Sort(these)
		ins = append(ins, slices.Compact(these))
	}
	return ins
}

// TestUses holds Uses against what each line leans on, on all ways.
func TestUses(t *testing.T) {
	r := maker(2)
	for range 2000 {
		f := grow(r, 1+r.IntN(60), size(2, 1+r.IntN(9), 2), func() api.Ival { return span(-1, 1, r.IntN(9)) })
		for i, l := range f.Lines {
			// The greatest numbers that an input can have, which no list would hold.
			if l.Op == api.OIn && r.IntN(4) == 0 {
				f.Lines[i].A = math.MaxInt - 1 - r.IntN(2)
			}
		}
		want := leansOn(f)
		for k, line := range f.Outs {
			if got := tape.Uses(f, k); !slices.Equal(got, want[line]) {
				t.Fatalf("Uses of line %d of %v: %v; want %v", line, f, got, want[line])
			}
		}
		for _, k := range []int{-1, len(f.Outs), len(f.Outs) + 1, math.MaxInt, math.MinInt} {
			if got := tape.Uses(f, k); len(got) != 0 {
				t.Fatalf("Uses of no out of %v: %v", f, got)
			}
		}
	}
}

// TestUsesByHand: what cancels out, what is divided by itself and what is nothing times it are leant on; lines beside and behind the out are not.
func TestUsesByHand(t *testing.T) {
	f := api.Tape{Lines: row(line(api.OIn, 7, 0), line(api.OIn, 3, 0), line(api.OSub, 0, 0), number(span(0, 0, 0)), line(api.OMul, 3, 1), line(api.OAdd, 4, 2), line(api.OExp, 5, 0), line(api.OIn, 3, 0), line(api.OIn, 0, 0), line(api.OState, 5, 0), line(api.OPar, 4, 0))}
	f.Outs = all(len(f.Lines))
	want := [][]int{{7}, {3}, {7}, {}, {3}, {3, 7}, {3, 7}, {3}, {0}, {}, {}}
	for k, ins := range want {
		if got := tape.Uses(f, k); !slices.Equal(got, ins) {
			t.Errorf("line %d: %v; want %v", k, got, ins)
		}
	}
	f.Outs = []int{6, 0, 6}
	for k, ins := range [][]int{{3, 7}, {7}, {3, 7}, {}} {
		if got := tape.Uses(f, k); !slices.Equal(got, ins) {
			t.Errorf("out %d: %v; want %v", k, got, ins)
		}
	}
}

// TestUsesLong: a tape that doubles on each line ends, though it has 2^200 ways.
func TestUsesLong(t *testing.T) {
	f := api.Tape{Lines: row(line(api.OIn, 2, 0)), Outs: []int{maxLines - 1}}
	for len(f.Lines) < maxLines {
		f.Lines = append(f.Lines, line(api.OAdd, len(f.Lines)-1, len(f.Lines)-1))
	}
	if got := tape.Uses(f, 0); !slices.Equal(got, []int{2}) {
		t.Error(got)
	}
	for _, p := range precs {
		got, code := tape.Eval(f, api.Env{U: []api.Ival{{}, {}, span(-1, 3, 0)}}, p)
		if want := span(-1, 1, maxLines-1); code != api.OK || len(got) != 1 || !alike(got[0].Lo, want.Lo) || p > 1 && !alike(got[0].Hi, of(3, maxLines-1)) {
			t.Error(got, code)
		}
	}
}

// badTapes are tapes that may not be for two of each, each for one reason.
func badTapes() []api.Tape {
	time := line(api.OTime, 0, 0)
	all := []api.Tape{
		{Lines: slices.Repeat(row(time), maxLines+1), Outs: []int{0}},
		{Lines: row(time), Outs: make([]int, maxLines+1)},
		{Lines: row(time), Outs: []int{0, 1}},
		{Lines: row(time), Outs: []int{0, -1}},
		{Outs: []int{0}},
	}
	lines := row(line(0, 0, 0), line(14, 0, 0), line(api.OTime, 1, 0), line(api.OTime, 0, 1), api.Line{Op: api.OTime, K: span(1, 1, 0)}, line(api.OState, -1, 0), line(api.OIn, -1, 0), line(api.OPar, -1, 0), line(api.OIn, 0, 1), line(api.OState, math.MaxInt, 0), line(api.OIn, math.MaxInt, 0), line(api.OPar, math.MaxInt, 0), line(api.OAdd, 0, 1), line(api.OAdd, 1, 0), line(api.OMul, -1, 0), line(api.ODiv, 0, 2), line(api.ONeg, 1, 0), line(api.ONeg, 0, -1), line(api.OExp, math.MinInt, 0), api.Line{Op: api.OConst, A: 1}, api.Line{Op: api.OConst, B: 1})
	for _, k := range bad() {
		lines = append(lines, number(k), api.Line{Op: api.OSqr, K: k})
	}
	for _, l := range lines {
		all = append(all, api.Tape{Lines: row(time, l, time), Outs: []int{0}})
	}
	return all
}

// TestWrong hands over what may not be, one beside what may: also what no line asks for.
func TestWrong(t *testing.T) {
	good := api.Tape{Lines: row(line(api.OTime, 0, 0), line(api.OState, 1, 0), line(api.OIn, 1, 0), line(api.OPar, 1, 0)), Outs: []int{0, 1}}
	constant := api.Tape{Lines: row(number(span(1, 1, 0))), Outs: []int{0}}
	env := func() api.Env {
		two := []api.Ival{span(1, 2, 0), span(3, 4, 0)}
		return api.Env{T: span(0, 1, 0), X: slices.Clone(two), U: slices.Clone(two), P: slices.Clone(two)}
	}
	for _, f := range []api.Tape{good, constant, {}} {
		if !tape.May(f, 2, 2, 2) {
			t.Fatal("May")
		}
		wrong(t, f, env(), 53, api.OK)
		for _, p := range badPrecs {
			wrong(t, f, env(), p, api.ErrArg)
			wrong(t, f, api.Env{}, p, api.ErrArg)
		}
		for _, a := range bad() {
			for i := range 7 {
				e := env()
				e.T, e.X, e.U, e.P = put(i, 6, a, e.T), puts(i, 0, a, e.X), puts(i, 2, a, e.U), puts(i, 4, a, e.P)
				wrong(t, f, e, 53, api.ErrArg)
			}
		}
	}
	for _, f := range badTapes() {
		wrong(t, f, env(), 53, api.ErrArg)
		if got := tape.Uses(f, 0); len(got) != 0 {
			t.Errorf("Uses of %v: %v", f, got)
		}
	}
	fewer(t, good, env())
}

// put is a, if i is this, else what is there.
func put(i, this int, a, there api.Ival) api.Ival {
	if i == this {
		return a
	}
	return there
}

// puts puts a into a list of two, whose numbers begin at this.
func puts(i, this int, a api.Ival, there []api.Ival) []api.Ival {
	return []api.Ival{put(i, this, a, there[0]), put(i, this+1, a, there[1])}
}

// wrong asks for what must answer this code, with nothing beside an error.
func wrong(t *testing.T, f api.Tape, e api.Env, p, code int) {
	t.Helper()
	if got, c := tape.Lines(f, e, p); c != code || code != api.OK && len(got) != 0 {
		t.Errorf("Lines of %v, %v to %d bits: %v, %d", f, e, p, got, c)
	}
	if got, c := tape.Eval(f, e, p); c != code || code != api.OK && len(got) != 0 {
		t.Errorf("Eval of %v, %v to %d bits: %v, %d", f, e, p, got, c)
	}
}

// fewer has one less of each than f asks for, and one more.
func fewer(t *testing.T, f api.Tape, e api.Env) {
	t.Helper()
	less, more := e.X[:1], append(slices.Clone(e.X), span(1, 1, 0))
	for i := range 3 {
		for _, these := range []struct {
			list []api.Ival
			code int
		}{{less, api.ErrArg}, {nil, api.ErrArg}, {more, api.OK}} {
			x := e
			*[]*[]api.Ival{&x.X, &x.U, &x.P}[i] = these.list
			wrong(t, f, x, 53, these.code)
		}
	}
}

// ones are the operations on one line.
var ones = map[int]func(a api.Ival, p int) (api.Ival, int){
	api.ONeg: arith.Neg, api.OSqr: arith.Sqr, api.OSqrt: arith.Sqrt, api.OExp: expo.Over,
}

// twos are the operations on two.
var twos = map[int]func(a, b api.Ival, p int) (api.Ival, int){
	api.OAdd: arith.Add, api.OSub: arith.Sub, api.OMul: arith.Mul, api.ODiv: arith.Div,
}

// expected is what Lines must answer of what may be.
func expected(f api.Tape, e api.Env, p int) ([]api.Ival, int) {
	given := map[int][]api.Ival{api.OTime: {e.T}, api.OState: e.X, api.OIn: e.U, api.OPar: e.P}
	var vs []api.Ival
	for _, l := range f.Lines {
		var v api.Ival
		var code int
		switch {
		case ones[l.Op] != nil:
			v, code = ones[l.Op](vs[l.A], p)
		case twos[l.Op] != nil:
			v, code = twos[l.Op](vs[l.A], vs[l.B], p)
		case l.Op == api.OConst:
			v, code = ival.Round(l.K, p)
		default:
			v, code = ival.Round(given[l.Op][l.A], p)
		}
		if code != api.OK {
			return nil, code
		}
		vs = append(vs, v)
	}
	return vs, api.OK
}

// try holds both calls against what they must answer.
func try(t *testing.T, f api.Tape, e api.Env, p int) int {
	t.Helper()
	want, c := expected(f, e, p)
	if got, code := tape.Lines(f, e, p); code != c || !slices.EqualFunc(got, want, equal) {
		t.Fatalf("Lines of %v, %v to %d bits: %v, %d; want %v, %d", f, e, p, got, code, want, c)
	}
	var outs []api.Ival
	if c == api.OK {
		for _, line := range f.Outs {
			outs = append(outs, want[line])
		}
	}
	if got, code := tape.Eval(f, e, p); code != c || !slices.EqualFunc(got, outs, equal) {
		t.Fatalf("Eval of %v, %v to %d bits: %v, %d; want %v, %d", f, e, p, got, code, outs, c)
	}
	return c
}

// made is a Dyad of up to three limbs, of a size that the operations have a value for.
func made(r *rand.Rand) api.Dyad {
	m := new(big.Int)
	for range 1 + r.IntN(3) {
		m.Lsh(m, 64).Or(m, new(big.Int).SetUint64(r.Uint64()>>r.IntN(64)))
	}
	if r.IntN(2) == 0 {
		m.Neg(m)
	}
	return is(m, r.IntN(8)-m.BitLen())
}

// madeSpan is an interval of two that are made so, or of one.
func madeSpan(r *rand.Rand) api.Ival {
	a, b := made(r), made(r)
	if r.IntN(3) == 0 {
		b = a
	}
	if c, code := ival.Make(a, b); code == api.OK {
		return c
	}
	return from(b, a)
}

// madeEnv is as many as s says.
func madeEnv(r *rand.Rand, s sizes) api.Env {
	e := api.Env{T: madeSpan(r)}
	for range s['x'] {
		e.X = append(e.X, madeSpan(r))
	}
	for range s['u'] {
		e.U = append(e.U, madeSpan(r))
	}
	for range s['p'] {
		e.P = append(e.P, madeSpan(r))
	}
	return e
}

// TestLines holds tapes of all kinds against their lines' operations.
func TestLines(t *testing.T) {
	r := maker(3)
	codes := map[int]int{}
	for i := range 3000 {
		s := size(r.IntN(4), r.IntN(4), r.IntN(4))
		n := r.IntN(12)
		if i%20 == 0 {
			n = r.IntN(maxLines + 1)
		}
		f := grow(r, n, s, func() api.Ival { return madeSpan(r) })
		p := 1 + r.IntN(most)
		if r.IntN(2) == 0 {
			p = precs[r.IntN(len(precs))]
		}
		codes[try(t, f, madeEnv(r, s), p)]++
	}
	for _, code := range []int{api.OK, api.ErrDomain} {
		if codes[code] < 300 {
			t.Errorf("%d only %d times", code, codes[code])
		}
	}
	for _, p := range precs {
		try(t, api.Tape{}, api.Env{}, p)
		try(t, api.Tape{Lines: row(), Outs: []int{}}, api.Env{X: []api.Ival{}}, p)
		try(t, api.Tape{Lines: row(number(span(1, 3, 0)))}, api.Env{}, p)
	}
}

// TestErrors: the first line's error is the error, also of a line that no out leans on; and what no line asks for has none.
func TestErrors(t *testing.T) {
	huge := span(3, 3, maxExp) // whose Up to one bit is no Dyad
	one, zero := number(span(1, 1, 0)), number(span(0, 0, 0))
	domain := line(api.ODiv, 0, 1)
	exponent := line(api.OSqr, 2, 0)
	limbs := line(api.OAdd, 0, 2)
	ahead := row(one, zero, number(span(1, 1, maxExp)))
	with := func(lines ...api.Line) api.Tape { return api.Tape{Lines: append(slices.Clone(ahead), lines...)} }
	for i, x := range []struct {
		t    api.Tape
		e    api.Env
		p    int
		code int
	}{
		{with(), api.Env{}, 1, api.OK},
		{with(domain), api.Env{}, 9, api.ErrDomain},
		{with(exponent), api.Env{}, 9, api.ErrExp},
		{with(limbs), api.Env{}, 9, api.ErrLimb},
		{with(domain, exponent, limbs), api.Env{}, 9, api.ErrDomain},
		{with(limbs, domain, exponent), api.Env{}, 9, api.ErrLimb},
		{with(exponent, limbs, domain), api.Env{}, 9, api.ErrExp},
		{with(number(huge), domain), api.Env{}, 1, api.ErrExp},
		{with(number(huge), domain), api.Env{}, 2, api.ErrDomain},
		{with(domain, number(huge)), api.Env{}, 1, api.ErrDomain},
		// Each that rounds alone.
		{with(number(huge)), api.Env{}, 1, api.ErrExp},
		{with(number(huge)), api.Env{}, 2, api.OK},
		{with(line(api.OTime, 0, 0)), api.Env{T: huge}, 1, api.ErrExp},
		{with(line(api.OTime, 0, 0)), api.Env{T: huge}, 2, api.OK},
		{with(), api.Env{T: huge}, 1, api.OK},
		{with(line(api.OState, 1, 0)), api.Env{X: []api.Ival{{}, huge}}, 1, api.ErrExp},
		{with(line(api.OState, 0, 0)), api.Env{X: []api.Ival{{}, huge}}, 1, api.OK},
		{with(line(api.OIn, 1, 0)), api.Env{U: []api.Ival{{}, huge}}, 1, api.ErrExp},
		{with(line(api.OIn, 0, 0)), api.Env{U: []api.Ival{{}, huge}}, 1, api.OK},
		{with(line(api.OPar, 1, 0)), api.Env{P: []api.Ival{{}, huge}}, 1, api.ErrExp},
		{with(line(api.OPar, 0, 0)), api.Env{P: []api.Ival{{}, huge}}, 1, api.OK},
		// What has no root or no exp.
		{with(number(span(-1, 4, 0)), line(api.OSqrt, 3, 0)), api.Env{}, 9, api.ErrDomain},
		{with(number(span(0, 4, 0)), line(api.OSqrt, 3, 0)), api.Env{}, 9, api.OK},
		{with(number(span(-64, 64, 0)), line(api.OExp, 3, 0)), api.Env{}, 9, api.OK},
		{with(number(span(-64, 65, 0)), line(api.OExp, 3, 0)), api.Env{}, 9, api.ErrDomain},
		{with(number(span(1, 1, -401)), line(api.OExp, 3, 0)), api.Env{}, 9, api.ErrLimb},
		{with(number(span(1, 1, -maxExp)), line(api.OSqr, 3, 0)), api.Env{}, 9, api.ErrExp},
		// A divisor that holds 0 only for its width.
		{with(line(api.OState, 0, 0), line(api.OSub, 3, 3), line(api.ODiv, 0, 4)), api.Env{X: []api.Ival{span(1, 2, 0)}}, 9, api.ErrDomain},
		// What may not be is told ahead of any line's error.
		{with(domain, line(api.OAdd, 4, 0)), api.Env{}, 9, api.ErrArg},
		{with(domain), api.Env{U: []api.Ival{span(1, 0, 0)}}, 9, api.ErrArg},
		{with(domain), api.Env{}, 301, api.ErrArg},
	} {
		for _, outs := range [][]int{nil, {0}, all(len(x.t.Lines))} {
			x.t.Outs = outs
			wrong(t, x.t, x.e, x.p, x.code)
			if x.code != api.ErrArg && try(t, x.t, x.e, x.p) != x.code {
				t.Error(i)
			}
		}
	}
}

// parts are all lists of limbs of these.
func parts(these ...api.Ival) [][]uint64 {
	var ms [][]uint64
	for _, a := range these {
		ms = append(ms, a.Lo.M, a.Hi.M)
	}
	return ms
}

// withRoom is a copy of these, with room behind their limbs that an append would write to.
func withRoom(these []api.Ival) []api.Ival {
	var all []api.Ival
	for _, a := range these {
		a.Lo.M = append(make([]uint64, 0, 8), a.Lo.M...)
		a.Hi.M = append(make([]uint64, 0, 8), a.Hi.M...)
		all = append(all, a)
	}
	return append(make([]api.Ival, 0, len(all)+2), all...)
}

// changed tells whether what came of withRoom is something else by now.
func changed(got, want []api.Ival) bool {
	for i, m := range parts(want...) {
		g := parts(got...)[i]
		if !slices.Equal(g[:8], append(slices.Clone(m), make([]uint64, 8-len(m))...)) {
			return true
		}
	}
	return !slices.EqualFunc(got, want, equal) || !slices.EqualFunc(got[len(got):cap(got)], make([]api.Ival, cap(got)-len(got)), equal)
}

// spoil overwrites m and the room behind it.
func spoil(m []uint64) {
	m = m[:cap(m)]
	for i := range m {
		m[i] = 0xbad
	}
}

// constants are the K of a tape's lines.
func constants(f api.Tape) []api.Ival {
	var ks []api.Ival
	for _, l := range f.Lines {
		ks = append(ks, l.K)
	}
	return ks
}

// TestMemory: what is handed in is not changed, and what is answered is the caller's own, each list of it by itself.
func TestMemory(t *testing.T) {
	r := maker(4)
	for range 400 {
		s := size(2, 2, 2)
		f := grow(r, 1+r.IntN(20), s, func() api.Ival { return madeSpan(r) })
		f.Outs = append(f.Outs, f.Outs...)
		memory(t, f, madeEnv(r, s), 1+r.IntN(most), r)
	}
	// Each line that rounds alone, of what is short enough as it is, told twice.
	f := api.Tape{Lines: row(number(span(1, 1, 0)), line(api.OTime, 0, 0), line(api.OState, 0, 0), line(api.OIn, 0, 0), line(api.OPar, 0, 0), line(api.ONeg, 0, 0)), Outs: []int{0, 1, 2, 3, 4, 5, 0, 1, 2, 3, 4, 5}}
	these := []api.Ival{span(3, 5, 0)}
	memory(t, f, api.Env{T: span(5, 5, 0), X: these, U: these, P: these}, 64, r)
}

// memory asks for one tape in one Env.
func memory(t *testing.T, f api.Tape, e api.Env, p int, r *rand.Rand) {
	t.Helper()
	lines, _ := tape.Lines(f, e, p)
	outs, _ := tape.Eval(f, e, p)
	for i, call := range []func(api.Tape, api.Env, int) ([]api.Ival, int){tape.Lines, tape.Eval} {
		want := [][]api.Ival{lines, outs}[i]
		ks := withRoom(constants(f))
		x := api.Tape{Lines: slices.Clone(f.Lines), Outs: slices.Clone(f.Outs)}
		for j, k := range ks {
			x.Lines[j].K = k
		}
		given := api.Env{T: withRoom([]api.Ival{e.T})[0], X: withRoom(e.X), U: withRoom(e.U), P: withRoom(e.P)}
		got, _ := call(x, given, p)
		if changed(ks, constants(f)) || changed(constants(x), constants(f)) || changed([]api.Ival{given.T}, []api.Ival{e.T}) || changed(given.X, e.X) || changed(given.U, e.U) || changed(given.P, e.P) {
			t.Fatalf("call %d changed %v, %v", i, f, e)
		}
		if !slices.Equal(x.Outs, f.Outs) || !slices.EqualFunc(x.Lines, f.Lines, func(a, b api.Line) bool { return a.Op == b.Op && a.A == b.A && a.B == b.B }) {
			t.Fatalf("call %d changed %v", i, f)
		}
		for _, m := range parts(slices.Concat(ks, []api.Ival{given.T}, given.X, given.U, given.P)...) {
			spoil(m)
		}
		if !slices.EqualFunc(got, want, equal) {
			t.Fatalf("call %d of %v, %v: the answer shares memory", i, f, e)
		}
		apart(t, got, r)
	}
	uses(t, f)
}

// apart spoils the lists of an answer one by one: the others stay as they are.
func apart(t *testing.T, got []api.Ival, r *rand.Rand) {
	t.Helper()
	ms := parts(got...)
	r.Shuffle(len(ms), func(i, j int) { ms[i], ms[j] = ms[j], ms[i] })
	for i, m := range ms {
		var rest [][]uint64
		for _, o := range ms[i+1:] {
			rest = append(rest, slices.Clone(o))
		}
		spoil(m)
		for j, o := range ms[i+1:] {
			if !slices.Equal(o, rest[j]) {
				t.Fatal("two lists of one answer share memory")
			}
		}
	}
}

// uses: Uses changes nothing, and keeps nothing of what it answers.
func uses(t *testing.T, f api.Tape) {
	t.Helper()
	lines, outs := slices.Clone(f.Lines), slices.Clone(f.Outs)
	for k := range f.Outs {
		first := tape.Uses(f, k)
		want := slices.Clone(first)
		for i := range first {
			first[i] = -7
		}
		if !slices.Equal(tape.Uses(f, k), want) {
			t.Fatalf("Uses of %v: the answer is kept", f)
		}
	}
	if !slices.Equal(f.Outs, outs) || !slices.EqualFunc(f.Lines, lines, func(a, b api.Line) bool { return a.Op == b.Op && a.A == b.A && a.B == b.B && equal(a.K, b.K) }) {
		t.Fatalf("Uses changed %v", f)
	}
}

// wildTape is a tape that may be, with up to two parts of it changed to anything.
func wildTape(r *rand.Rand, s sizes, edges []int) api.Tape {
	f := grow(r, 1+r.IntN(8), s, func() api.Ival { return madeSpan(r) })
	wild := func() int { return edges[r.IntN(len(edges))] }
	for range r.IntN(3) {
		i := r.IntN(len(f.Lines))
		switch r.IntN(5) {
		case 0:
			f.Lines[i].Op = wild()
		case 1:
			f.Lines[i].A = wild()
		case 2:
			f.Lines[i].B = wild()
		case 3:
			f.Lines[i].K = from(badDyads[r.IntN(len(badDyads))], made(r))
		case 4:
			f.Outs[i] = wild()
		}
	}
	return f
}

// mayAll tells whether a tape may be, by its lines' shapes.
func mayAll(f api.Tape, s sizes) bool {
	for i, l := range f.Lines {
		s['l'] = i
		if !s.mayBe(l, ival.May(l.K), equal(l.K, api.Ival{})) {
			return false
		}
	}
	s['l'] = len(f.Lines)
	return !slices.ContainsFunc(f.Outs, func(k int) bool { return !s.may('l', k) })
}

// TestWild: of any arguments whatever no call panics; each answers what may be with so many bits, and nothing beside an error.
func TestWild(t *testing.T) {
	r := maker(5)
	edges := []int{0, 1, 2, 3, 4, 5, 6, 9, 10, 13, 14, -1, 200, maxExp, math.MaxInt - 1, math.MaxInt, math.MinInt}
	for range 10000 {
		s := size(r.IntN(3), r.IntN(3), r.IntN(3))
		e := madeEnv(r, s)
		f := wildTape(r, s, edges)
		p := 1 + r.IntN(most+20)
		arg := p > most || !mayAll(f, s)
		if r.IntN(20) == 0 {
			e.T.Hi, arg = badDyads[r.IntN(len(badDyads))], true
		}
		for _, call := range []func(api.Tape, api.Env, int) ([]api.Ival, int){tape.Lines, tape.Eval} {
			got, code := call(f, e, p)
			if arg != (code == api.ErrArg) || code != api.OK && len(got) != 0 {
				t.Fatalf("of %v, %v to %d bits: %v, %d", f, e, p, got, code)
			}
			for _, a := range got {
				if !ival.May(a) || round.Bits(a.Lo) > p || round.Bits(a.Hi) > p {
					t.Fatalf("of %v, %v to %d bits: %v", f, e, p, a)
				}
			}
		}
		if !mayAll(f, size(math.MaxInt, math.MaxInt, math.MaxInt)) && len(tape.Uses(f, r.IntN(len(f.Outs)))) != 0 {
			t.Fatalf("Uses of %v", f)
		}
	}
}
