// Package nat is layer 1: see shared/doc/01-nat.md.
package nat

import (
	"math/bits"
	"slices"

	"glossator/api"
)

const limbBits = 32

// Cmp tells whether a is below (-1), the same as (0) or above (1) b.
func Cmp(a []uint32, b []uint32) int {
	return compare(trim(a), trim(b))
}

// Add tells the sum of a and all of b.
func Add(a []uint32, b ...[]uint32) ([]uint32, api.Errno) {
	if tooLong(a) || tooLong(b...) {
		return nil, api.ErrLong
	}
	sum := slices.Clone(trim(a))
	for _, part := range b {
		sum = plus(sum, trim(part))
	}
	return bounded(sum)
}

// Sub tells a less b.
func Sub(a []uint32, b []uint32) ([]uint32, api.Errno) {
	if tooLong(a, b) {
		return nil, api.ErrLong
	}
	if Cmp(a, b) < 0 {
		return nil, api.ErrArg
	}
	rest := slices.Clone(trim(a))
	subtract(rest, trim(b))
	return trim(rest), api.OK
}

// Mul tells the product of a and b.
func Mul(a []uint32, b []uint32) ([]uint32, api.Errno) {
	if tooLong(a, b) {
		return nil, api.ErrLong
	}
	x, y := widen(trim(a)), widen(trim(b))
	return bounded(narrow(product(x, y)))
}

// DivSmall tells the quotient and the rest of a by d.
func DivSmall(a []uint32, d uint32) ([]uint32, uint32, api.Errno) {
	if tooLong(a) {
		return nil, 0, api.ErrLong
	}
	if d == 0 {
		return nil, 0, api.ErrArg
	}
	quotient := widen(trim(a))
	rest := divideBy(quotient, uint64(d))
	return narrow(quotient), uint32(rest), api.OK
}

// Div tells the quotient and the rest of a by b.
func Div(a []uint32, b []uint32) ([]uint32, []uint32, api.Errno) {
	if tooLong(a, b) {
		return nil, nil, api.ErrLong
	}
	if Bits(b) == 0 {
		return nil, nil, api.ErrArg
	}
	quotient, rest := divide(widen(trim(a)), widen(trim(b)))
	return narrow(quotient), narrow(rest), api.OK
}

// Shl tells a times 2^n.
func Shl(a []uint32, n int) ([]uint32, api.Errno) {
	if tooLong(a) {
		return nil, api.ErrLong
	}
	if n < 0 {
		return nil, api.ErrArg
	}
	size := Bits(a)
	if size == 0 {
		return nil, api.OK
	}
	// Asked ahead of the shift, as n may be greater than any memory.
	if n > api.MaxLimbs*limbBits-size {
		return nil, api.ErrLong
	}
	return shiftUp(trim(a), n), api.OK
}

// Shr tells the quotient of a by 2^n.
func Shr(a []uint32, n int) ([]uint32, api.Errno) {
	if tooLong(a) {
		return nil, api.ErrLong
	}
	if n < 0 {
		return nil, api.ErrArg
	}
	return shiftDown(trim(a), n), api.OK
}

// Bits tells how many bits a has.
func Bits(a []uint32) int {
	a = trim(a)
	if len(a) == 0 {
		return 0
	}
	last := len(a) - 1
	return last*limbBits + bits.Len32(a[last])
}

// tooLong tells whether one of the numbers has more than MaxLimbs limbs.
func tooLong(numbers ...[]uint32) bool {
	for _, a := range numbers {
		if len(trim(a)) > api.MaxLimbs {
			return true
		}
	}
	return false
}

// bounded is a as an answer, or the refusal of an answer that is too long.
func bounded(a []uint32) ([]uint32, api.Errno) {
	if tooLong(a) {
		return nil, api.ErrLong
	}
	return trim(a), api.OK
}
