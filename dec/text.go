package dec

import (
	"bytes"
	"math"
	"math/bits"
	"slices"
	"strconv"
	"strings"

	"sluiceway/api"
	"sluiceway/dyad"
)

// What Text is asked for at most.
const (
	maxDigits = 60
	maxShift  = 2000
)

// A group is so many decimal digits, the most that a limb holds.
const (
	groupDigits = 19
	groupSize   = 10_000_000_000_000_000_000
)

// Text is d as a decimal with so many digits behind the point, rounded down, or up.
func Text(d api.Dyad, digits int, up bool) (string, int) {
	switch {
	case !dyad.May(d) || digits < 0 || digits > maxDigits:
		return "", api.ErrArg
	case d.E < -maxShift || d.E > maxShift:
		return "", api.ErrLimb
	}
	s, behind := expanded(d)
	// Up leads away from 0 above it, down does below it.
	s = shortened(s, behind-digits, up != d.Neg)
	text := pointed(s, digits)
	if d.Neg && !zeros(s) {
		text = "-" + text
	}
	return text, api.OK
}

// expanded is all decimal digits of d without its sign, with none at all for nought's whole part, and how many of them stand behind the point.
func expanded(d api.Dyad) ([]byte, int) {
	var row []uint64
	for _, x := range slices.Backward(d.M) {
		// By halves, for the size of a limb itself does not fit into one.
		row = times(row, 1<<32, x>>32)
		row = times(row, 1<<32, x&math.MaxUint32)
	}
	if d.E >= 0 {
		return written(timesPower(row, 2, d.E)), 0
	}
	// Each half is a five that stands one digit lower.
	return written(timesPower(row, 5, -d.E)), -d.E
}

// timesPower is row times base^n, in row's place as far as it goes.
func timesPower(row []uint64, base uint64, n int) []uint64 {
	factor := uint64(1)
	for range n {
		if factor > math.MaxUint64/base {
			row, factor = times(row, factor, 0), 1
		}
		factor *= base
	}
	return times(row, factor, 0)
}

// times is row times factor and more, in row's place as far as it goes; row is a natural by its groups, the least first, without noughts at the end.
func times(row []uint64, factor, more uint64) []uint64 {
	for i, group := range row {
		hi, lo := bits.Mul64(group, factor)
		lo, carry := bits.Add64(lo, more, 0)
		// A group times a limb and a limb more is less than groupSize limbs, so this can be divided.
		more, row[i] = bits.Div64(hi+carry, lo, groupSize)
	}
	for ; more > 0; more /= groupSize {
		row = append(row, more%groupSize)
	}
	return row
}

// written is the digits of row, with no noughts in front.
func written(row []uint64) []byte {
	var s []byte
groups:
	for i, group := range slices.Backward(row) {
		digits := strconv.FormatUint(group, 10)
		if i == len(row)-1 {
			s = append(s, digits...)
			continue groups
		}
		s = append(s, strings.Repeat("0", groupDigits-len(digits))...)
		s = append(s, digits...)
	}
	return s
}

// shortened is s without its last n digits, in s's place as far as it goes: rounded down, or away from 0; with -n noughts behind it, if n is below 0.
func shortened(s []byte, n int, away bool) []byte {
	if n < 0 {
		return append(s, strings.Repeat("0", -n)...)
	}
	at := max(0, len(s)-n)
	if away && !zeros(s[at:]) {
		return next(s[:at])
	}
	return s[:at]
}

// next is the digits of one more than s, in s's place as far as it goes.
func next(s []byte) []byte {
digits:
	for i, c := range slices.Backward(s) {
		if c == '9' {
			s[i] = '0'
			continue digits
		}
		s[i]++
		return s
	}
	return append([]byte("1"), s...)
}

// zeros tells whether no digit of s is another one than 0.
func zeros(s []byte) bool {
	return len(bytes.Trim(s, "0")) == 0
}

// pointed is s with a point ahead of its last n digits, if n is above 0, and at least one digit ahead of that.
func pointed(s []byte, n int) string {
	text := strings.Repeat("0", max(0, n+1-len(s))) + string(s)
	if n == 0 {
		return text
	}
	at := len(text) - n
	return text[:at] + "." + text[at:]
}
