package fdec_test

import (
	"math"
	"math/big"
	"testing"

	"glossator/api"
)

func TestShortestExamples(t *testing.T) {
	for _, x := range []struct {
		bits uint64
		d    string
		e    int
	}{
		{0, "0", 0}, {signBit, "0", 0},
		{0x3FF0000000000000, "1", 0}, {0xBFF0000000000000, "1", 0}, {0x3FB999999999999A, "1", -1}, {0x4059000000000000, "1", 2}, {0x3FD3333333333333, "3", -1},
		{0x40C81CD6C8B43958, "12345678", -3}, {0x3EB0C6F7A0B5ED8D, "1", -6}, {0x437B69B4BA630F35, "12345678901234568", 1},
		// Whole numbers above 2^53.
		{0x4340000000000000, "9007199254740992", 0}, {0x4340000000000001, "9007199254740994", 0}, {0x4341C37937E07FFF, "9999999999999998", 0},
		{0x43F0000000000000, "18446744073709552", 3}, {0x4415AF1D78B58C40, "1", 20}, {0x441AC53A7E04BCDA, "12345678901234568", 4}, {0x4480F0CF064DD592, "1", 22},
		// Of the least Small any from 3 to 7 is one digit: 5 is the nearest.
		{1, "5", -324}, {signBit | 1, "5", -324}, {3, "15", -324}, {4, "2", -323}, {19, "94", -324}, {0x000FFFFFFFFFFFFF, "2225073858507201", -323},
		// The ends of what is Plain.
		{leastPlain, "22250738585072014", -324}, {greatest, "17976931348623157", 292}, {signBit | greatest, "17976931348623157", 292},
		// Digits that carry over: what stands there is 988.. and 9999..
		{2, "1", -323}, {20, "1", -322}, {0x44B52D02C7E14AF6, "1", 23}, {0x4341C37937E08000, "1", 16},
		// Digits that end in 9.
		{0x3FEFFFFFFFFFFFFF, "9999999999999999", -16}, {0x4007333333333333, "29", -1}, {0x430C6BF52633FFFF, "9999999999999999", -1},
		{0x444B1AE4D6E2EF4F, "9999999999999999", 5}, {0x3FECCCCCCCCCCCCD, "9", -1}, {0x3FEFAE147AE147AE, "99", -2},
		// Two candidates, and one is nearer.
		{0x3FFFFFFFFFFFFFFF, "19999999999999998", -16}, {0x4415AF1D78B58C3F, "9999999999999998", 4}, {0x4011666666666666, "435", -2},
		// Two as near: the even one beneath, and above.
		{0x4300000000000002, "5629499534213122", -1}, {0x4300000000000006, "5629499534213128", -1}, {0xC300000000000002, "5629499534213122", -1},
		// Powers of two. The decimal beneath is nearer (2^-44, 2^64), or as near
		// and even (2^-24, 2^-25), but belongs to the neighbour below.
		{0x3D30000000000000, "5684341886080802", -29}, {0x3E70000000000000, "5960464477539063", -23}, {0x3E60000000000000, "29802322387695312", -24},
		{0x0040000000000000, "17800590868057611", -323}, {0x0060000000000000, "7120236347223045", -322}, {0x03D0000000000000, "25653355008114852", -306},
		{0x4580000000000000, "6189700196426902", 11}, {0x7E90000000000000, "42860344287450693", 285}, {0x3A50000000000000, "8077935669463161", -43},
		{0x4350000000000000, "18014398509481984", 0}, {0x7FE0000000000000, "898846567431158", 293}, {0x0010000000000000, "22250738585072014", -324},
		{0x0020000000000000, "4450147717014403", -323}, {0x0008000000000000, "11125369292536007", -324},
	} {
		checkShortest(t, x.bits, x.d, x.e, api.OK)
		checkShortestAsWanted(t, x.bits)
	}
}

func TestShortestOfNotFinite(t *testing.T) {
	for _, bits := range notFinite {
		checkShortest(t, bits, "", 0, api.ErrArg)
	}
	c := chance(21)
	for range 1000 {
		checkShortest(t, c.word()|infinite, "", 0, api.ErrArg)
	}
}

// TestShortestOfPowersOfTwo: each one, and those around it.
func TestShortestOfPowersOfTwo(t *testing.T) {
	for n := range 52 {
		for away := range uint64(3) {
			checkShortestAsWanted(t, 1<<n+away-1)
		}
	}
	for exponent := uint64(1); exponent < 0x7FF; exponent++ {
		for away := range uint64(3) {
			checkShortestAsWanted(t, exponent<<52+away-1)
		}
	}
}

// TestShortestOfPowersOfTen: each one, and those around it.
func TestShortestOfPowersOfTen(t *testing.T) {
	for e := -323; e <= 308; e++ {
		bits := nearestTo("1", e)
		checkShortest(t, bits, "1", e, api.OK)
		for away := range uint64(3) {
			checkShortestAsWanted(t, bits+away-1)
		}
	}
}

// TestShortestOfSmall: where the fewest bits are, one digit tells most floats.
func TestShortestOfSmall(t *testing.T) {
	for bits := range uint64(2000) {
		checkShortestAsWanted(t, bits)
	}
}

// TestShortestOfTwoAsNear: odd numbers of 2^-b end in 25 or 75, the 5 at the
// place b behind the point: just between two decimals with one place less, of
// which the even one ends in 2, beneath, or in 8, above.
func TestShortestOfTwoAsNear(t *testing.T) {
	c := chance(22)
	ends := map[byte]int{}
	for b := 2; b <= 20; b++ {
		for range 500 {
			// As great a number as has the bit 2^-b still.
			whole := c.word() >> 11
			f := math.Ldexp(float64(whole|1), -b)
			if c.below(2) == 0 {
				f = math.Ldexp(float64(whole>>c.below(16)|1), -b)
			}
			bits := bitsOf(f)
			checkShortestAsWanted(t, bits)
			d, e := wantShortest(bits)
			// As near are both just if twice the way to the decimal is its unit.
			far := new(big.Rat).Sub(number(d, e), amountOf(bits))
			if far.Add(far, far).Abs(far).Cmp(power(e)) == 0 {
				ends[d[len(d)-1]]++
			}
		}
	}
	for _, digit := range []byte("28") {
		if ends[digit] < 100 {
			t.Errorf("just %d with two as near end in %c", ends[digit], digit)
		}
	}
}

func TestShortestOfMany(t *testing.T) {
	for _, bits := range amounts(23) {
		checkShortestAsWanted(t, bits)
	}
	for _, bits := range simple(24, 8000) {
		checkShortestAsWanted(t, bits)
	}
}
