package dec

import (
	"strconv"
	"strings"

	"sluiceway/api"
	"sluiceway/fault"
	"sluiceway/nat"
)

// What a literal has at most.
const (
	maxBytes       = 60
	maxPowerDigits = 3
	maxPower       = 100
)

// number is what a literal stands for: its digits, read as a natural, times 10^ten.
type number struct {
	digits string
	ten    int
}

// read is the number that s stands for, if s is a literal.
func read(s string) number {
	if len(s) > maxBytes {
		panic(fault.Code(api.ErrText))
	}
	whole, rest := run(s)
	part, ten := "", 0
	if behind, ok := strings.CutPrefix(rest, "."); ok {
		part, rest = run(behind)
	}
	if behind, ok := strings.CutPrefix(rest, "e"); ok {
		ten, rest = power(behind)
	}
	if rest != "" {
		panic(fault.Code(api.ErrText))
	}
	return number{whole + part, ten - len(part)}
}

// power is the power of ten that s begins with, and what stands behind it.
func power(s string) (int, string) {
	s, below := strings.CutPrefix(s, "-")
	if !below {
		s = strings.TrimPrefix(s, "+")
	}
	digits, rest := run(s)
	n, err := strconv.Atoi(digits)
	if err != nil || len(digits) > maxPowerDigits || n > maxPower {
		panic(fault.Code(api.ErrText))
	}
	if below {
		n = -n
	}
	return n, rest
}

// run is the digits that s begins with, of which there must be one at least, and what stands behind them.
func run(s string) (string, string) {
	n := 0
digits:
	for n < len(s) {
		switch c := s[n]; {
		case '0' <= c && c <= '9':
			n++
		default:
			break digits
		}
	}
	if n == 0 {
		panic(fault.Code(api.ErrText))
	}
	return s[:n], s[n:]
}

// ratio is two naturals: n is the first divided by the second, times 2^n.ten.
func (n number) ratio() ([]uint64, []uint64) {
	// Ten is twice five; and one of the two powers of five is 1, for its exponent is not above 0. A literal has so few digits and so small a power that each fits.
	return fault.Must(nat.Mul(natural(n.digits), fives(n.ten))), fives(-n.ten)
}

// natural is what digits stand for.
func natural(digits string) []uint64 {
	var n []uint64
	for i := range len(digits) {
		last := nat.Norm([]uint64{uint64(digits[i] - '0')})
		n = fault.Must(nat.Add(fault.Must(nat.Mul(n, []uint64{10})), last))
	}
	return n
}

// fives is 5^n; 1 of an n below 0.
func fives(n int) []uint64 {
	p := []uint64{1}
	for range n {
		p = fault.Must(nat.Mul(p, []uint64{5}))
	}
	return p
}
