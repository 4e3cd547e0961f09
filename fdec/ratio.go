package fdec

import (
	"strings"

	"glossator/nat"
)

// The numbers of this package stay far below nat's bounds (some 10^4 bits, where
// it has 2^17, and 2800 digits, where it reads 2^12), and no divisor is 0: it
// refuses nothing here, so that the functions below tell its answers alone.

// ratio tells two numbers of which the quotient is the digits d times 10^e.
func ratio(d string, e int) ([]uint32, []uint32) {
	return fromDigits(d + zeros(e)), fromDigits("1" + zeros(-e))
}

// timesPower tells two numbers of which the quotient is x over y times 2^n.
func timesPower(x, y []uint32, n int) ([]uint32, []uint32) {
	return shiftUp(x, max(n, 0)), shiftUp(y, max(-n, 0))
}

// zeros is so many digits 0, none if n is below 0.
func zeros(n int) string {
	return strings.Repeat("0", max(n, 0))
}

func fromDigits(s string) []uint32 {
	number, _ := nat.FromDigits(s)
	return number
}

func shiftUp(a []uint32, n int) []uint32 {
	shifted, _ := nat.Shl(a, n)
	return shifted
}

func times(a, b []uint32) []uint32 {
	product, _ := nat.Mul(a, b)
	return product
}

func divide(a, b []uint32) ([]uint32, []uint32) {
	quotient, rest, _ := nat.Div(a, b)
	return quotient, rest
}

// short tells a number that has 64 bits at most.
func short(a []uint32) uint64 {
	var out uint64
	for i, limb := range a {
		out |= uint64(limb) << (32 * i)
	}
	return out
}

// long undoes short.
func long(n uint64) []uint32 {
	return []uint32{uint32(n), uint32(n >> 32)}
}
