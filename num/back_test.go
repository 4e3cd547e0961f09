package num_test

import (
	"strings"
	"testing"

	"glossator/api"
	"glossator/num"
)

// checkBack asks for the same value from its text, of which all is a number.
func checkBack(t *testing.T, v api.Value) {
	t.Helper()
	s, e := num.Text(v)
	if e != api.OK {
		t.Fatalf("Text(%s): %v", told(v), e)
	}
	checkScan(t, s, len(s), api.OK)
	checkValue(t, s, v, api.OK)
}

func TestThereAndBack(t *testing.T) {
	for _, neg := range []bool{false, true} {
		for bit := range 64 {
			for away := range uint64(3) {
				checkBack(t, whole(neg, 1<<bit+away-1))
			}
		}
		for n := 9; n <= 498; n++ {
			checkBack(t, great(neg, "\x01"+strings.Repeat("\x00", n-1)))
			checkBack(t, great(neg, strings.Repeat("\xFF", n)))
		}
		// The greatest and the least whole number of as many digits as are read.
		end := bigOf(strings.Repeat("9", mostWhole))
		if neg {
			end.Neg(end)
		}
		checkBack(t, valueOf(end))
	}
	for _, bits := range []uint64{0, 1, 2, 1<<52 - 1, 1 << 52, 0x3FF0000000000000, 0x3FB999999999999A, 0x4340000000000000, 0x43F0000000000000, infinite - 1} {
		checkBack(t, float(bits))
		checkBack(t, float(signBit|bits))
	}
}

func TestThereAndBackOfMany(t *testing.T) {
	c := chance(76)
	for range 5000 {
		neg := c.below(2) == 0
		checkBack(t, whole(neg, c.word()>>c.below(64)))
		checkBack(t, great(neg, c.bytes(9+c.below(490))))
		if bits := c.word(); bits&infinite != infinite {
			checkBack(t, float(bits))
		}
	}
}
