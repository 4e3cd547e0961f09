package fbits

import "glossator/api"

// shape is of how many bits a float of a width is made: below a sign those of
// an exponent, below these those of a fraction.
type shape struct {
	width    int
	exponent int
	fraction int
}

// shapes tells those of all widths, the least first.
func shapes() [3]shape {
	return [...]shape{
		{16, 5, 10},
		{32, 8, 23},
		{64, 11, 52},
	}
}

// widest is the shape that has what any shape has.
func widest() shape {
	all := shapes()
	return all[len(all)-1]
}

// shapeOf tells the shape of a width, if it is one.
func shapeOf(width int) (shape, bool) {
	for _, s := range shapes() {
		if s.width == width {
			return s, true
		}
	}
	return shape{}, false
}

// shapeFor tells the shape of a width, if it is one and can have the bits.
func shapeFor(width int, bits uint64) (shape, api.Errno) {
	s, ok := shapeOf(width)
	switch {
	case !ok:
		fallthrough
	case bits>>width != 0:
		return shape{}, api.ErrArg
	}
	return s, api.OK
}

// ones is the exponent of what is not finite.
func (s shape) ones() int {
	return 1<<s.exponent - 1
}

// bias is what the exponent of 1 is.
func (s shape) bias() int {
	return s.ones() >> 1
}

// hidden is the bit that stands above the fraction of what is Plain.
func (s shape) hidden() uint64 {
	return 1 << s.fraction
}

// split tells the sign, the exponent's bits and the fraction's.
func (s shape) split(bits uint64) (bool, int, uint64) {
	neg := bits>>(s.width-1) != 0
	exponent := int(bits>>s.fraction) & s.ones()
	return neg, exponent, bits & (s.hidden() - 1)
}

// join undoes split.
func (s shape) join(neg bool, exponent int, fraction uint64) uint64 {
	bits := uint64(exponent)<<s.fraction | fraction
	if neg {
		bits |= 1 << (s.width - 1)
	}
	return bits
}

// class tells the class of bits of the shape.
func (s shape) class(bits uint64) int {
	_, exponent, fraction := s.split(bits)
	switch {
	case exponent == s.ones() && fraction != 0:
		return Nan
	case exponent == s.ones():
		return Inf
	case exponent != 0:
		return Plain
	case fraction != 0:
		return Small
	}
	return Zero
}
