package nat

import (
	"math/bits"
	"slices"
)

// product tells the product of a and b, as long as both together.
func product(a, b []uint64) []uint64 {
	out := make([]uint64, len(a)+len(b))
	for i, factor := range a {
		out[i+len(b)] = addTimes(out[i:i+len(b)], b, factor)
	}
	return out
}

// addTimes adds b times factor to a, which is just as long, and tells what is
// carried out of it.
func addTimes(a, b []uint64, factor uint64) uint64 {
	var carry uint64
	for i, x := range b {
		high, low := bits.Mul64(x, factor)
		low, c := bits.Add64(low, carry, 0)
		high += c
		a[i], c = bits.Add64(a[i], low, 0)
		carry = high + c
	}
	return carry
}

// subTimes takes b times factor from a, which is one limb longer, and tells
// whether (1) or not (0) it was too great.
func subTimes(a, b []uint64, factor uint64) uint64 {
	var carry, borrow uint64
	for i, x := range b {
		high, low := bits.Mul64(x, factor)
		low, c := bits.Add64(low, carry, 0)
		carry = high + c
		a[i], borrow = bits.Sub64(a[i], low, borrow)
	}
	a[len(b)], borrow = bits.Sub64(a[len(b)], carry, borrow)
	return borrow
}

// timesPlus makes a into a times factor and more, and tells it.
func timesPlus(a []uint64, factor, more uint64) []uint64 {
	for i, x := range a {
		high, low := bits.Mul64(x, factor)
		low, c := bits.Add64(low, more, 0)
		a[i], more = low, high+c
	}
	if more != 0 {
		a = append(a, more)
	}
	return a
}

// divideBy makes a into its quotient by d, and tells the rest.
func divideBy(a []uint64, d uint64) uint64 {
	var rest uint64
	for i := len(a) - 1; i >= 0; i-- {
		a[i], rest = bits.Div64(rest, a[i], d)
	}
	return rest
}

// divide tells the quotient and the rest of a by b (trimmed, b not 0), in new
// memory: Knuth's algorithm D.
func divide(a, b []uint64) ([]uint64, []uint64) {
	if compare(a, b) < 0 {
		return nil, slices.Clone(a)
	}
	if len(b) == 1 {
		quotient := slices.Clone(a)
		rest := divideBy(quotient, b[0])
		return quotient, []uint64{rest}
	}
	// The guesses are near only if the divisor's highest bit is set.
	up := bits.LeadingZeros64(b[len(b)-1])
	divisor := shiftUp(b, up)
	rest := make([]uint64, len(a)+1)
	copy(rest, shiftUp(a, up))
	quotient := make([]uint64, len(rest)-len(divisor))
	for i := len(quotient) - 1; i >= 0; i-- {
		quotient[i] = takeOut(rest[i:i+len(divisor)+1], divisor)
	}
	return quotient, shiftDown(trim(rest), up)
}

// takeOut takes the divisor out of a, which is one limb longer, as often as it
// is in it, and tells how often.
func takeOut(a, divisor []uint64) uint64 {
	times := guess(a, divisor)
	if subTimes(a, divisor, times) != 0 {
		addInto(a, divisor)
		times--
	}
	return times
}

// guess tells how often the divisor is in a, by the highest limbs: just so
// often, or once too many.
func guess(a, divisor []uint64) uint64 {
	n := len(divisor)
	top, second := divisor[n-1], divisor[n-2]
	if a[n] >= top {
		// A quotient is one limb: with the highest bit of top set, the
		// greatest limb is once too many at most.
		return ^uint64(0)
	}
	times, rest := bits.Div64(a[n], a[n-1], top)
	high, low := bits.Mul64(times, second)
	for high > rest || high == rest && low > a[n-2] {
		times--
		next, wrapped := bits.Add64(rest, top, 0)
		if wrapped != 0 {
			break
		}
		rest = next
		high, low = bits.Mul64(times, second)
	}
	return times
}
