package fdec

import (
	"math/bits"

	"glossator/nat"
)

// A span is where the decimals stand to which a float is nearest, counted in
// units of 10^place.
type span struct {
	amount uint64 // the float's whole units
	more   bool   // has it a part of a unit beside them?
	first  uint64 // the least decimal of whole units
	last   uint64 // the greatest one
	place  int
}

// 17 digits tell any float from all others. An amount has one digit more at
// least, so that all decimals that are looked at are multiples of ten units, and
// two more at most, so that 64 bits have it and what stands a step above it.
const (
	amountDigits = 18
	leastStep    = 10
	greatestStep = 1_000_000_000_000_000_000
)

// newSpan tells the span of the float m times 2^e, which is not 0.
func newSpan(m uint64, e int) span {
	place := decimals(bits.Len64(m)-1+e) + 1 - amountDigits
	// Quarters of 2^e are counted: the next float is four of them away, and
	// below a power of 2, where floats lie closer, the last one but two.
	over, under := ratio("1", -place)
	over, under = timesPower(over, under, e-2)
	units := func(quarters uint64) (uint64, bool) {
		whole, rest := divide(times(long(quarters), over), under)
		return short(whole), nat.Bits(rest) > 0
	}
	below := uint64(2)
	if m == 1<<fractionBits && e > leastUnit {
		below = 1
	}
	amount, more := units(4 * m)
	first, pastFirst := units(4*m - below)
	last, pastLast := units(4*m + 2)
	// What stands just between two floats is nearest to the even one.
	odd := m%2 != 0
	if pastFirst || odd {
		first++
	}
	if odd && !pastLast {
		last--
	}
	return span{amount, more, first, last, place}
}

// decimals tells the exponent of the greatest power of 10 that is not above
// 2^n, of each n that a float can have.
func decimals(n int) int {
	// The logarithm of 2 is 0.30103; over 2^18 it is told well enough here.
	const logarithm, shift = 78913, 18
	return n * logarithm >> shift
}

// fewest tells, in units, of the decimals with the fewest digits the nearest to
// the float.
func (s span) fewest() uint64 {
	step := uint64(greatestStep)
	for step > s.amount {
		step /= 10
	}
	var found uint64
search:
	for ; step >= leastStep; step /= 10 {
		// No other decimals of so few digits are as near as these two.
		lower := s.amount / step * step
		upper := lower + step
		switch {
		case upper <= s.last && (lower < s.first || s.isUpper(lower, step)):
			found = upper
			break search
		case lower >= s.first:
			found = lower
			break search
		}
	}
	return found
}

// isUpper tells whether not the lower one of two decimals is to be taken but
// the one a step above it.
func (s span) isUpper(lower, step uint64) bool {
	under, over := s.amount-lower, lower+step-s.amount
	switch {
	case under != over:
		// They differ by two at least, as both together are even: the part of
		// a unit can't turn it.
		return under > over
	case s.more:
		return true
	}
	return lower/step%2 != 0
}
