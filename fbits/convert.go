package fbits

import "math/bits"

// convert tells the bits of one shape for those of another, if it has just the
// same float.
func convert(from, to shape, b uint64) (uint64, bool) {
	neg, exponent, fraction := from.split(b)
	switch from.class(b) {
	case Inf:
		fallthrough
	case Nan:
		moved, ok := shift(fraction, to.fraction-from.fraction)
		if !ok {
			return 0, false
		}
		return to.join(neg, to.ones(), moved), true
	}
	m, e := from.amount(exponent, fraction)
	return to.compose(neg, m, e)
}

// amount tells m and e of a finite float, whose amount is m times 2^e.
func (s shape) amount(exponent int, fraction uint64) (uint64, int) {
	if exponent == 0 {
		return fraction, s.leastUnit()
	}
	return fraction | s.hidden(), s.leastUnit() + exponent - 1
}

// compose tells the bits of the number m times 2^e, if the shape has it.
func (s shape) compose(neg bool, m uint64, e int) (uint64, bool) {
	if m == 0 {
		return s.join(neg, 0, 0), true
	}
	top := bits.Len64(m) - 1 + e
	if top > s.bias() {
		return 0, false
	}
	unit := max(top-s.fraction, s.leastUnit())
	units, ok := shift(m, e-unit)
	if !ok {
		return 0, false
	}
	if units < s.hidden() {
		return s.join(neg, 0, units), true
	}
	return s.join(neg, top+s.bias(), units-s.hidden()), true
}

// leastUnit is the exponent of 2 of which all finite floats are multiples.
func (s shape) leastUnit() int {
	return 1 - s.bias() - s.fraction
}

// shift tells m times 2^n, if that is whole and has no more than 64 bits.
func shift(m uint64, n int) (uint64, bool) {
	if n < 0 {
		out := m >> -n
		return out, out<<-n == m
	}
	out := m << n
	return out, out>>n == m
}
