package fbits_test

import (
	"math"
	"testing"

	"glossator/fbits"
)

func TestIntExamples(t *testing.T) {
	for _, x := range []struct {
		bits uint64
		neg  bool
		n    uint64
		ok   bool
	}{
		// 0, and -0, which is none.
		{0x0000000000000000, false, 0, true}, {0x8000000000000000, false, 0, false},
		{0x3FF0000000000000, false, 1, true}, {0xBFF0000000000000, true, 0, true}, {0xC000000000000000, true, 1, true}, {0x4008000000000000, false, 3, true},
		// Halves, and less.
		{0x3FE0000000000000, false, 0, false}, {0xBFE0000000000000, false, 0, false}, {0x3FF8000000000000, false, 0, false}, {0xC004000000000000, false, 0, false},
		{0x432FFFFFFFFFFFFF, false, 0, false}, {0xC32FFFFFFFFFFFFF, false, 0, false}, {0x3FF0000000000001, false, 0, false}, {0x3FEFFFFFFFFFFFFF, false, 0, false},
		{0x0000000000000001, false, 0, false}, {0x8000000000000001, false, 0, false}, {0x0010000000000000, false, 0, false}, {0x3FB999999999999A, false, 0, false},
		// About 2^52 and 2^53.
		{0x432FFFFFFFFFFFFE, false, 1<<52 - 1, true}, {0x4330000000000001, false, 1<<52 + 1, true}, {0x433FFFFFFFFFFFFF, false, 1<<53 - 1, true},
		{0x4340000000000000, false, 1 << 53, true}, {0x4340000000000001, false, 1<<53 + 2, true}, {0xC340000000000000, true, 1<<53 - 1, true},
		// About 2^63.
		{0x43DFFFFFFFFFFFFF, false, 1<<63 - 1<<10, true}, {0x43E0000000000000, false, 1 << 63, true}, {0xC3E0000000000000, true, 1<<63 - 1, true},
		{0xC3E0000000000001, true, 1<<63 + 1<<11 - 1, true},
		// The greatest below 2^64, and it: the one more.
		{0x43EFFFFFFFFFFFFF, false, math.MaxUint64 - 1<<11 + 1, true}, {0x43F0000000000000, false, 0, false}, {0x43F0000000000001, false, 0, false},
		// -2^64, which still is one, those beside it, and those beyond.
		{0xC3EFFFFFFFFFFFFF, true, math.MaxUint64 - 1<<11, true}, {0xC3F0000000000000, true, math.MaxUint64, true}, {0xC3F0000000000001, false, 0, false},
		{0x4400000000000000, false, 0, false}, {0xC400000000000000, false, 0, false}, {0x4730000000000000, false, 0, false}, {0xC730000000000000, false, 0, false},
		{0x7FEFFFFFFFFFFFFF, false, 0, false}, {0xFFEFFFFFFFFFFFFF, false, 0, false}, {0x7FE0000000000000, false, 0, false}, {0xFFE0000000000000, false, 0, false},
		// What is not finite.
		{0x7FF0000000000000, false, 0, false}, {0xFFF0000000000000, false, 0, false}, {0x7FF8000000000000, false, 0, false}, {0xFFF8000000000000, false, 0, false},
		{0x7FF0000000000001, false, 0, false}, {math.MaxUint64, false, 0, false},
	} {
		checkInt(t, x.bits, x.neg, x.n, x.ok)
	}
}

// checkIntAsWanted asks Int for what the library's exact numbers tell.
func checkIntAsWanted(t *testing.T, b uint64) {
	t.Helper()
	neg, n, ok := wantInt(b)
	checkInt(t, b, neg, n, ok)
}

func TestIntEachExponent(t *testing.T) {
	const beyond = 1023 + 70
	for exponent := range uint64(beyond) {
		for place := range 52 {
			b := exponent<<52 | 1<<place
			for _, x := range []uint64{exponent << 52, b, b ^ 1, exponent<<52 | (1<<52-1)>>place<<place} {
				checkIntAsWanted(t, x)
				checkIntAsWanted(t, x|1<<63)
			}
		}
	}
	for exponent := uint64(beyond); exponent < 1<<11; exponent++ {
		checkIntAsWanted(t, exponent<<52)
		checkIntAsWanted(t, exponent<<52|1<<63|1)
	}
}

func TestIntMany(t *testing.T) {
	c := chance(5)
	for range 50000 {
		checkIntAsWanted(t, c.float(64))
		whole := float64(c.word() >> (c.word() % 64))
		checkIntAsWanted(t, math.Float64bits(whole))
		checkIntAsWanted(t, math.Float64bits(-whole))
		checkIntAsWanted(t, math.Float64bits(whole/2))
		checkIntAsWanted(t, math.Float64bits(-whole*2))
	}
}

func TestFromIntExamples(t *testing.T) {
	const most = math.MaxUint64
	for _, x := range []struct {
		neg  bool
		n    uint64
		want uint64
		ok   bool
	}{
		{true, 0, 0xBFF0000000000000, true}, {false, 0, 0x0000000000000000, true},
		{false, 1, 0x3FF0000000000000, true}, {true, 1, 0xC000000000000000, true}, {false, 2, 0x4000000000000000, true}, {true, 2, 0xC008000000000000, true},
		{false, 10, 0x4024000000000000, true}, {true, 9, 0xC024000000000000, true},
		// About 53 bits.
		{false, 1<<53 - 1, 0x433FFFFFFFFFFFFF, true}, {false, 1 << 53, 0x4340000000000000, true}, {false, 1<<53 + 1, 0, false}, {false, 1<<53 + 2, 0x4340000000000001, true},
		{true, 1<<53 - 2, 0xC33FFFFFFFFFFFFF, true}, {true, 1<<53 - 1, 0xC340000000000000, true}, {true, 1 << 53, 0, false}, {true, 1<<53 + 1, 0xC340000000000001, true},
		{false, 1<<54 - 1, 0, false}, {false, 1<<54 - 2, 0x434FFFFFFFFFFFFF, true}, {true, 1<<54 - 3, 0xC34FFFFFFFFFFFFF, true}, {true, 1<<54 - 2, 0, false},
		// About 63 bits.
		{false, 1<<63 - 1, 0, false}, {false, 1 << 63, 0x43E0000000000000, true}, {false, 1<<63 + 1, 0, false}, {false, 1<<63 + 1<<10, 0, false},
		{false, 1<<63 + 1<<11, 0x43E0000000000001, true}, {true, 1<<63 - 1, 0xC3E0000000000000, true}, {true, 1 << 63, 0, false},
		{true, 1<<63 + 1<<11 - 1, 0xC3E0000000000001, true}, {true, 1<<63 + 1<<11, 0, false},
		// The greatest that there are.
		{false, most - 1<<11 + 1, 0x43EFFFFFFFFFFFFF, true}, {true, most - 1<<11, 0xC3EFFFFFFFFFFFFF, true}, {true, most - 1<<11 + 1, 0, false},
		{false, most, 0, false}, {false, most - 1, 0, false}, {true, most, 0xC3F0000000000000, true}, {true, most - 1, 0, false}, {true, most - 1<<10, 0, false},
	} {
		checkFromInt(t, x.neg, x.n, x.want, x.ok)
	}
}

// checkFromIntAsWanted asks FromInt for what the library's exact numbers tell.
func checkFromIntAsWanted(t *testing.T, n uint64) {
	t.Helper()
	for _, neg := range []bool{false, true} {
		want, ok := wantFromInt(neg, n)
		checkFromInt(t, neg, n, want, ok)
	}
}

func TestFromIntMany(t *testing.T) {
	for high := range 64 {
		for low := range high + 1 {
			for _, n := range []uint64{1<<high | 1<<low, 1<<high<<1 - 1<<low, 1<<high - 1<<low, 1<<high + 1<<low} {
				checkFromIntAsWanted(t, n-1)
				checkFromIntAsWanted(t, n)
				checkFromIntAsWanted(t, n+1)
			}
		}
	}
	for n := range uint64(5000) {
		checkFromIntAsWanted(t, n)
		checkFromIntAsWanted(t, math.MaxUint64-n)
	}
	c := chance(6)
	for range 50000 {
		n := c.word() >> (c.word() % 64) << (c.word() % 64)
		checkFromIntAsWanted(t, n)
		checkFromIntAsWanted(t, n-1)
	}
}

// TestIntUndoesFromInt: and FromInt, where there is something to undo, Int.
func TestIntUndoesFromInt(t *testing.T) {
	check := func(n uint64) {
		for _, neg := range []bool{false, true} {
			if b, ok := fbits.FromInt(neg, n); ok {
				checkInt(t, b, neg, n, true)
			}
		}
	}
	for n := range uint64(20000) {
		if _, ok := fbits.FromInt(true, n); !ok {
			t.Fatalf("FromInt(true, %d) has no bits", n)
		}
		check(n)
		check(n << 44)
		check(n<<44 - 1)
		check(math.MaxUint64 - n)
	}
	c := chance(7)
	for range 100000 {
		check(c.word() >> (c.word() % 64) << (c.word() % 64))
		b := c.float(64)
		if neg, n, ok := fbits.Int(b); ok {
			checkFromInt(t, neg, n, b, true)
		}
	}
}
