package nat

import "math/bits"

// A limb is one of the faces' 32 bits, or one of the 64 bits by which long
// products and quotients need a quarter of the steps.
type limb interface {
	uint32 | uint64
}

// widthOf tells how many bits a limb of the kind has.
func widthOf[T limb]() int {
	return bits.Len64(uint64(^T(0)))
}

// trim is a without the limbs 0 at its end.
func trim[T limb](a []T) []T {
	for len(a) > 0 && a[len(a)-1] == 0 {
		a = a[:len(a)-1]
	}
	return a
}

// compare tells -1, 0, 1 of trimmed numbers.
func compare[T limb](a, b []T) int {
	if len(a) != len(b) {
		if len(a) < len(b) {
			return -1
		}
		return 1
	}
	for i := len(a) - 1; i >= 0; i-- {
		if a[i] != b[i] {
			if a[i] < b[i] {
				return -1
			}
			return 1
		}
	}
	return 0
}

// addInto adds b to a, which is as long at least, and tells what is carried
// out of a.
func addInto[T limb](a, b []T) T {
	var carry T
	for i, x := range b {
		part := a[i] + x
		sum := part + carry
		// One of both additions at most wraps round.
		if part < x || sum < part {
			carry = 1
		} else {
			carry = 0
		}
		a[i] = sum
	}
	for i := len(b); i < len(a) && carry != 0; i++ {
		a[i]++
		if a[i] != 0 {
			carry = 0
		}
	}
	return carry
}

// shiftUp is a new number, a trimmed one times 2^n.
func shiftUp[T limb](a []T, n int) []T {
	width := widthOf[T]()
	whole, part := n/width, n%width
	out := make([]T, whole+len(a)+1)
	for i, x := range a {
		// Of part 0 the second shift is by the whole width: nothing is left.
		out[whole+i] |= x << part
		out[whole+i+1] = x >> (width - part)
	}
	return trim(out)
}

// shiftDown is a new number, the quotient of a trimmed one by 2^n.
func shiftDown[T limb](a []T, n int) []T {
	width := widthOf[T]()
	whole, part := n/width, n%width
	if whole >= len(a) {
		return nil
	}
	a = a[whole:]
	out := make([]T, len(a))
	for i := range out {
		out[i] = a[i] >> part
		if i+1 < len(a) {
			out[i] |= a[i+1] << (width - part)
		}
	}
	return trim(out)
}

// plus adds b to a, which is overwritten and grows where it must.
func plus(a, b []uint32) []uint32 {
	for len(a) < len(b) {
		a = append(a, 0)
	}
	if carry := addInto(a, b); carry != 0 {
		a = append(a, carry)
	}
	return a
}

// subtract takes b from a, which is as great at least and is overwritten.
func subtract(a, b []uint32) {
	var borrow uint32
	for i := range a {
		if i < len(b) {
			a[i], borrow = bits.Sub32(a[i], b[i], borrow)
		} else {
			a[i], borrow = bits.Sub32(a[i], 0, borrow)
		}
	}
}

// widen puts two limbs of 32 bits into each of 64, in new memory.
func widen(a []uint32) []uint64 {
	out := make([]uint64, (len(a)+1)/2)
	for i, x := range a {
		out[i/2] |= uint64(x) << (i % 2 * limbBits)
	}
	return out
}

// narrow undoes widen, in new memory and without limbs 0 at the end.
func narrow(a []uint64) []uint32 {
	out := make([]uint32, 0, 2*len(a))
	for _, x := range a {
		out = append(out, uint32(x), uint32(x>>limbBits))
	}
	return trim(out)
}
