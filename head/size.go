package head

import "math"

// size tells how many bytes a number has behind the first byte of its head.
type size int

const (
	within size = iota // the number is the info itself
	inOne
	inTwo
	inFour
	inEight
	noSize
)

// greatestWithin is the greatest info that is a number itself; the infos behind
// it tell the other sizes, in order.
const greatestWithin = 23

// sizeOf tells the size of so many bytes.
func sizeOf(length int) size {
	for s := range noSize {
		if s.length() == length {
			return s
		}
	}
	return noSize
}

// sizeBehind tells the size of what stands behind a first byte with the info.
func sizeBehind(info int) size {
	switch {
	case info <= greatestWithin || info == open:
		return within
	case info < greatestWithin+int(noSize):
		return size(info - greatestWithin)
	}
	return noSize
}

// least tells the first size that has n.
func least(n uint64) size {
	s := within
	for n > s.greatest() {
		s++
	}
	return s
}

// length tells how many bytes they are: 0, 1, 2, 4, 8 in the sizes' order.
func (s size) length() int {
	return 1 << s >> 1
}

// greatest tells the greatest number of the size.
func (s size) greatest() uint64 {
	if s == within {
		return greatestWithin
	}
	return math.MaxUint64 >> (64 - 8*s.length())
}

// info tells the info of a head that has n in the size.
func (s size) info(n uint64) int {
	if s == within {
		return int(n)
	}
	return greatestWithin + int(s)
}
