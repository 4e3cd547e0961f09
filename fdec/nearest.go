package fdec

import (
	"glossator/fbits"
	"glossator/nat"
)

// nearest tells the bits of the float nearest to x over y, which is not 0, or
// that it is too great.
func nearest(x, y []uint32) (uint64, bool) {
	// A number from 1 to 2 times a power of 2 is counted in units that are 2^52
	// times smaller than that power; no unit is smaller than the least.
	unit := max(highest(x, y)-fractionBits, leastUnit)
	if unit > greatestUnit {
		return 0, false
	}
	x, y = timesPower(x, y, -unit)
	whole, rest := divide(x, y)
	count := short(whole)
	half := nat.Cmp(shiftUp(rest, 1), y)
	if half > 0 || half == 0 && count%2 != 0 {
		count++
	}
	// Each unit above the least counts one more in the exponent's bits, and the
	// hidden bit adds one of its own, also where the count has been carried.
	bits := uint64(unit-leastUnit)<<fractionBits + count
	class, _ := fbits.Class(width, bits)
	if class == fbits.Inf {
		return 0, false
	}
	return bits, true
}

// highest tells the exponent of the greatest power of 2 that is not above x
// over y; of 0 one that is too small for any unit but the least.
func highest(x, y []uint32) int {
	if nat.Bits(x) == 0 {
		return leastUnit
	}
	n := nat.Bits(x) - nat.Bits(y)
	if x, y = timesPower(x, y, -n); nat.Cmp(x, y) < 0 {
		n--
	}
	return n
}
