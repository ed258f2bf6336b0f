package flow

import (
	"math/bits"
	"slices"

	"sluiceway/api"
)

const (
	// farSteps is how many steps, as a power of 2, the time may be long.
	farSteps = 6
	// limbBits is how many bits a limb has.
	limbBits = 64
)

// near tells whether to less from is at most 64 times h, where from is not above to and h is above 0.
func near(from, to, h api.Dyad) bool {
	// The difference and the product need not be Dyads: so sums without signs are held against each other, of which each number is in the one where it is not below 0.
	low, high := []api.Dyad{to}, []api.Dyad{{M: h.M, E: h.E + farSteps}, from}
	if from.Neg {
		low, high = append(low, from), high[:1]
	}
	if to.Neg {
		low, high = low[1:], append(high, to)
	}
	first, last := bounds(slices.Concat(low, high))
	return atMost(total(low, first, last), total(high, first, last))
}

// bounds is from which power of 2 up to which one all of these have their bits.
func bounds(these []api.Dyad) (first, last int) {
	for _, d := range these {
		first = min(first, d.E)
		last = max(last, d.E+limbBits*len(d.M))
	}
	return first, last
}

// total is the sum of two of these at most, without signs, in units of 2^first.
func total(these []api.Dyad, first, last int) []uint64 {
	// There are more bits than are asked for by at least a limb: room for what is carried.
	all := make([]uint64, (last-first)/limbBits+2)
	for _, d := range these {
		add(all[(d.E-first)/limbBits:], d.M, (d.E-first)%limbBits)
	}
	return all
}

// add adds m times 2^n, of an n below a limb's bits, to all, which has room for it.
func add(all, m []uint64, n int) {
	var below, carry uint64
	for i := range all {
		var limb uint64
		if i < len(m) {
			limb = m[i]
		}
		all[i], carry = bits.Add64(all[i], limb<<n|below>>(limbBits-n), carry)
		below = limb
	}
}

// atMost tells whether a is not above b, which has as many limbs.
func atMost(a, b []uint64) bool {
	for i, limb := range slices.Backward(a) {
		if limb != b[i] {
			return limb < b[i]
		}
	}
	return true
}
