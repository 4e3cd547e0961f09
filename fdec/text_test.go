package fdec_test

import (
	"testing"

	"glossator/api"
)

func TestTextExamples(t *testing.T) {
	for _, x := range []struct {
		bits uint64
		want string
	}{
		{0x3FB999999999999A, "0.1"}, {0x4340000000000000, "9007199254740992.0"},
		{0, "0.0"}, {signBit, "-0.0"}, {0x3FF0000000000000, "1.0"}, {0xBFF0000000000000, "-1.0"}, {0xBFF8000000000000, "-1.5"}, {0x4059000000000000, "100.0"},
		{0x40C81CD6C8B43958, "12345.678"}, {0x4341C37937E08000, "10000000000000000.0"}, {0x430C6BF52633FFFF, "999999999999999.9"},
		// p at 1, 0, and below, down to -5.
		{nearestTo("9", 0), "9.0"}, {nearestTo("12345", -4), "1.2345"}, {nearestTo("5", -1), "0.5"}, {nearestTo("12345678901234567", -17), "0.12345678901234566"},
		{nearestTo("25", -3), "0.025"}, {nearestTo("1", -5), "0.00001"}, {nearestTo("12345", -9), "0.000012345"},
		{nearestTo("1", -6), "0.000001"}, {nearestTo("12345678901234567", -22), "0.0000012345678901234567"}, {signBit | nearestTo("1", -6), "-0.000001"},
		{nearestTo("9999999999999999", -21), "0.000009999999999999999"},
		// p at -6, and below.
		{nearestTo("1", -7), "1e-7"}, {nearestTo("15", -8), "1.5e-7"}, {signBit | nearestTo("15", -8), "-1.5e-7"}, {nearestTo("9999999999999997", -22), "9.999999999999997e-7"},
		{nearestTo("1", -10), "1e-10"}, {nearestTo("1", -100), "1e-100"}, {1, "5e-324"}, {signBit | 1, "-5e-324"}, {leastPlain, "2.2250738585072014e-308"}, {2, "1e-323"},
		// p at 16 to 21.
		{nearestTo("12345678901234568", 0), "12345678901234568.0"}, {nearestTo("1", 17), "100000000000000000.0"}, {nearestTo("1", 20), "100000000000000000000.0"},
		{nearestTo("123456789012345680", 3), "123456789012345680000.0"}, {signBit | nearestTo("1", 20), "-100000000000000000000.0"},
		{nearestTo("9999999999999999", 5), "999999999999999900000.0"},
		// p at 22, and above.
		{nearestTo("1", 21), "1e21"}, {nearestTo("12345678901234568", 5), "1.2345678901234568e21"}, {nearestTo("15", 20), "1.5e21"}, {nearestTo("1", 22), "1e22"},
		{signBit | nearestTo("1", 21), "-1e21"}, {nearestTo("1", 100), "1e100"}, {greatest, "1.7976931348623157e308"}, {signBit | greatest, "-1.7976931348623157e308"},
	} {
		checkText(t, x.bits, x.want, api.OK)
	}
}

func TestTextOfNotFinite(t *testing.T) {
	for _, bits := range notFinite {
		checkText(t, bits, "", api.ErrArg)
	}
}

// TestTextEachPoint: of digits one, two, and many, each place of the point
// around those at which the text changes.
func TestTextEachPoint(t *testing.T) {
	for _, d := range []string{"1", "9", "12", "123456", "999999", "123456789012345", "9007199254740993", "12345678901234567"} {
		for p := -9; p <= 25; p++ {
			bits := nearestTo(d, p-len(d))
			checkText(t, bits, wantText(bits), api.OK)
			checkText(t, signBit|bits, "-"+wantText(bits), api.OK)
		}
	}
}

func TestTextOfMany(t *testing.T) {
	all := append(amounts(31), simple(32, 20000)...)
	for _, bits := range all {
		checkText(t, bits, wantText(bits), api.OK)
		checkText(t, signBit|bits, "-"+wantText(bits), api.OK)
	}
}
