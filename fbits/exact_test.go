package fbits_test

import (
	"math"
	"math/big"
	"testing"

	"glossator/fbits"
)

func TestExactExamples(t *testing.T) {
	const hidden = 1 << 52
	for _, x := range []struct {
		bits uint64
		neg  bool
		m    uint64
		e    int
		ok   bool
	}{
		// Both zeros, and Small numbers, which have no hidden bit.
		{0x0000000000000000, false, 0, -1074, true}, {0x8000000000000000, true, 0, -1074, true},
		{0x0000000000000001, false, 1, -1074, true}, {0x8000000000000001, true, 1, -1074, true}, {0x0008000000000000, false, hidden / 2, -1074, true},
		{0x000FFFFFFFFFFFFF, false, hidden - 1, -1074, true}, {0x800FFFFFFFFFFFFF, true, hidden - 1, -1074, true},
		// The least Plain ones, which have it, and others as they stand.
		{0x0010000000000000, false, hidden, -1074, true}, {0x001FFFFFFFFFFFFF, false, 2*hidden - 1, -1074, true}, {0x0020000000000000, false, hidden, -1073, true},
		{0x3FF0000000000000, false, hidden, -52, true}, {0xBFF8000000000000, true, hidden + hidden/2, -52, true}, {0x3FB999999999999A, false, 0x1999999999999A, -56, true},
		{0x4320000000000000, false, hidden, -1, true}, {0x4330000000000000, false, hidden, 0, true}, {0x4340000000000000, false, hidden, 1, true},
		// The greatest.
		{0x7FE0000000000000, false, hidden, 971, true}, {0x7FEFFFFFFFFFFFFF, false, 2*hidden - 1, 971, true}, {0xFFEFFFFFFFFFFFFF, true, 2*hidden - 1, 971, true},
		// What is not finite.
		{0x7FF0000000000000, false, 0, 0, false}, {0xFFF0000000000000, false, 0, 0, false}, {0x7FF8000000000000, false, 0, 0, false},
		{0xFFF8000000000000, false, 0, 0, false}, {0x7FF0000000000001, false, 0, 0, false}, {0xFFF0000000000001, false, 0, 0, false}, {math.MaxUint64, false, 0, 0, false},
	} {
		checkExact(t, x.bits, x.neg, x.m, x.e, x.ok)
	}
}

// checkExactBySigns asks Exact for what signs 0 and 1 tell, and the library.
func checkExactBySigns(t *testing.T, b uint64) {
	t.Helper()
	sign, exponent, fraction := parts(64, b)
	x := int(number(exponent))
	switch x {
	case 2047:
		checkExact(t, b, false, 0, 0, false)
		return
	case 0:
		checkExact(t, b, sign == "1", number(fraction), -1074, true)
	default:
		checkExact(t, b, sign == "1", number("1"+fraction), x-1075, true)
	}
	neg, m, e, _ := fbits.Exact(b)
	amount := new(big.Float).SetMantExp(new(big.Float).SetUint64(m), e)
	if neg {
		amount.Neg(amount)
	}
	if got, accuracy := amount.Float64(); accuracy != big.Exact || math.Float64bits(got) != b {
		t.Fatalf("Exact(%X): %v, %X, %d make %X, %v", b, neg, m, e, math.Float64bits(got), accuracy)
	}
}

func TestExactEachExponent(t *testing.T) {
	c := chance(8)
	for exponent := range uint64(1 << 11) {
		for _, fraction := range []uint64{0, 1, 1 << 51, 1<<52 - 1, c.word() >> 12, c.word() >> 40} {
			checkExactBySigns(t, exponent<<52|fraction)
			checkExactBySigns(t, exponent<<52|fraction|1<<63)
		}
	}
	for range 100000 {
		checkExactBySigns(t, c.float(64))
	}
}
