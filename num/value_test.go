package num_test

import (
	"math/big"
	"strings"
	"testing"

	"glossator/api"
)

const twoTo64 = "\x01\x00\x00\x00\x00\x00\x00\x00\x00"

func TestValueOfWhole(t *testing.T) {
	for _, x := range []struct {
		s    string
		want api.Value
	}{
		{"0", whole(false, 0)}, {"1", whole(false, 1)}, {"-1", whole(true, 0)}, {"-2", whole(true, 1)}, {"10", whole(false, 10)}, {"-10", whole(true, 9)},
		{"255", whole(false, 255)}, {"256", whole(false, 256)}, {"-256", whole(true, 255)}, {"-257", whole(true, 256)},
		{"4294967295", whole(false, 1<<32-1)}, {"4294967296", whole(false, 1<<32)}, {"-4294967296", whole(true, 1<<32-1)}, {"-4294967297", whole(true, 1<<32)},
		{"9223372036854775807", whole(false, 1<<63-1)}, {"9223372036854775808", whole(false, 1<<63)}, {"-9223372036854775808", whole(true, 1<<63-1)}, {"-9223372036854775809", whole(true, 1<<63)},
		{"9007199254740993", whole(false, 1<<53+1)}, {"-9007199254740993", whole(true, 1<<53)},
		// The ends of a KInt.
		{"18446744073709551614", whole(false, maxUint64-1)}, {"18446744073709551615", whole(false, maxUint64)}, {"18446744073709551616", great(false, twoTo64)},
		{"18446744073709551617", great(false, twoTo64[:8]+"\x01")}, {"-18446744073709551615", whole(true, maxUint64-1)}, {"-18446744073709551616", whole(true, maxUint64)},
		{"-18446744073709551617", great(true, twoTo64)}, {"-18446744073709551618", great(true, twoTo64[:8]+"\x01")},
		// The ends of nine bytes.
		{"4722366482869645213695", great(false, strings.Repeat("\xFF", 9))}, {"4722366482869645213696", great(false, twoTo64+"\x00")},
		{"-4722366482869645213696", great(true, strings.Repeat("\xFF", 9))}, {"-4722366482869645213697", great(true, twoTo64+"\x00")},
		// -0 is none of them.
		{"-0", float(signBit)},
	} {
		checkValue(t, x.s, x.want, api.OK)
		checkValueAsWanted(t, x.s)
	}
}

// TestValueOfLongWhole: 1200 digits are read, one more of them is not; the sign
// is no digit.
func TestValueOfLongWhole(t *testing.T) {
	for _, n := range []int{20, 21, 100, mostDigits, mostDigits + 1, mostWhole - 1, mostWhole} {
		for _, d := range []string{strings.Repeat("9", n), "1" + strings.Repeat("0", n-1), strings.Repeat("1", n), "1" + strings.Repeat("0", n-2) + "1"} {
			for _, s := range []string{d, "-" + d} {
				want := valueOf(bigOf(s))
				checkValue(t, s, want, api.OK)
				if want.K != api.KBig && n > 20 {
					t.Fatalf("%s is to be a KBig", shown(s))
				}
			}
		}
	}
	for _, n := range []int{mostWhole + 1, mostWhole + 2, 2 * mostWhole, api.MaxDigits, api.MaxDigits + 1, 1 << 20} {
		for _, d := range []string{strings.Repeat("9", n), "1" + strings.Repeat("0", n-1)} {
			checkValue(t, d, api.Value{}, api.ErrLimit)
			checkValue(t, "-"+d, api.Value{}, api.ErrLimit)
		}
	}
}

// TestValueOfFloats: a point or an e makes a float, of whole amounts too.
func TestValueOfFloats(t *testing.T) {
	const one, ten = 0x3FF0000000000000, 0x4024000000000000
	for _, x := range []struct {
		s    string
		want uint64
	}{
		{"1.0", one}, {"1e0", one}, {"1E0", one}, {"1e+0", one}, {"1e-0", one}, {"-1.0", signBit | one}, {"-1e0", signBit | one}, {"1.000", one}, {"10e-1", one},
		{"0.0", 0}, {"-0.0", signBit}, {"0e0", 0}, {"-0e0", signBit}, {"0.00e5", 0}, {"-0E-5", signBit}, {"10.0", ten}, {"1e1", ten}, {"1E+1", ten},
		{"0.1", 0x3FB999999999999A}, {"-2.5e-3", 0xBF647AE147AE147B}, {"1.5", 0x3FF8000000000000}, {"-1.5e3", 0xC097700000000000},
		{"18446744073709551615.0", 0x43F0000000000000}, {"18446744073709551616e0", 0x43F0000000000000}, {"9007199254740993.0", 0x4340000000000000},
		// The ends of what a float can be.
		{"1.7976931348623157e308", infinite - 1}, {"-1.7976931348623157e308", signBit | infinite - 1}, {"1.797693134862315807e308", infinite - 1},
		{"2.2250738585072014e-308", 1 << 52}, {"5e-324", 1}, {"-5e-324", signBit | 1}, {"3e-324", 1},
		// Too small for any but 0.
		{"2e-324", 0}, {"-2e-324", signBit}, {"1e-400", 0}, {"-1e-400", signBit}, {"1.5e-2001", 0}, {"9.9e-9999", 0}, {"-9.9e-9999", signBit}, {"-0.0e-9999", signBit},
		// Nothing is too great of 0.
		{"0e400", 0}, {"0e9999", 0}, {"-0e9999", signBit}, {"-0.0E+9999", signBit},
	} {
		checkValue(t, x.s, float(x.want), api.OK)
		checkValueAsWanted(t, x.s)
	}
}

// TestValueOfTooGreat: no float is near enough.
func TestValueOfTooGreat(t *testing.T) {
	for _, s := range []string{
		"1.7976931348623159e308", "1.797693134862315808e308", "1.8e308", "1e309", "-1e309", "1E+309", "1e400", "-1.5e400", "1e2000", "1e2001", "1e9999", "-1e9999", "0.1e9999",
		strings.Repeat("9", 310) + ".0", strings.Repeat("9", 400) + "e0", strings.Repeat("9", mostDigits) + "e0", "-" + strings.Repeat("9", mostDigits) + "E9999",
	} {
		checkValue(t, s, api.Value{}, api.ErrLimit)
		checkValueAsWanted(t, s)
	}
}

// TestValueOfLongFloats: 800 digits ahead of e and 4 behind it are read, one
// more of them is not.
func TestValueOfLongFloats(t *testing.T) {
	ones, zeros := strings.Repeat("1", mostDigits), strings.Repeat("0", mostDigits)
	for _, s := range []string{
		ones + "e-790", "-" + ones + "e-790", ones + "E-0790", "0." + ones[1:], "-0." + ones[1:], "1." + ones[1:], "0." + zeros[1:], "-0." + zeros[1:] + "e9999",
		ones[:400] + "." + ones[400:] + "e-300", ones[:799] + ".1e-600", "1" + zeros[1:] + "e-799", "0." + zeros[2:] + "1e+0799",
		"1e0000", "1e0001", "1e+0001", "1e-0001", "1E-0300", "-1.5e0003",
	} {
		want, e := wantValue(s)
		if e != api.OK {
			t.Fatalf("%s is to be read", shown(s))
		}
		checkValue(t, s, want, api.OK)
	}
	for _, s := range []string{
		ones + "1e-790", "-" + ones + "1e-790", "0." + ones, "-0." + ones, "1." + ones, "0." + zeros, "-0." + zeros + "e0", "0." + zeros + "e9999",
		ones[:400] + "." + ones[400:] + "1e-300", ones + ".1e-600", "1" + zeros + "e-800", "1" + zeros + ".0", strings.Repeat("1", mostWhole+1) + "e-1200",
		"1e00000", "1e00001", "1e+00001", "1e-00001", "1E-00300", "0e00000", "-0e99999", "0.0e-99999", "1e-99999", "1e99999", "1e" + zeros, "1e-" + ones,
	} {
		checkValue(t, s, api.Value{}, api.ErrLimit)
		checkValueAsWanted(t, s)
	}
}

// TestValueOfNoNumber: just a number is read, whatever stands elsewhere.
func TestValueOfNoNumber(t *testing.T) {
	for _, s := range []string{
		// At the head.
		"", "-", "+", "+1", ".5", "-.5", "e5", " 1", "\t1", "\n1", "x1", "--1", "-+1", "- 1", "01", "-01", "00", "-00", "00.5", "01e5", "0x1", "\x001", "\xEF\xBB\xBF1", "null", "NaN", "-Infinity", "Inf",
		// In the middle.
		"1 2", "1,5", "1_000", "1-2", "1..5", "1.5.5", "1.e5", "1.-5", "1 .5", "1. 5", "1e5e5", "1ee5", "1e+-5", "1e 5", "1 e5", "1e5.5", "1\x002", "1\xFF2", "1\u06602", "1x2", "1e+x5",
		// At the end.
		"1.", "-1.", "0.", "1e", "1E", "1e+", "1e-", "1.5e", "1 ", "1\n", "1\x00", "1x", "1.5x", "1e5x", "1,", "1]", "1-", "1+", "1e5-", "0-", "1\xC3", "-0 ", "1.5.", "1e5.", "1f", "1d",
	} {
		checkValue(t, s, api.Value{}, api.ErrForm)
		checkValueAsWanted(t, s)
	}
}

// TestValueOfSeveralErrors: that it is no number comes ahead of all limits.
func TestValueOfSeveralErrors(t *testing.T) {
	long := strings.Repeat("1", mostWhole+1)
	for _, s := range []string{
		long, "-" + long, long + ".5", long + "e5", "0." + long, "0." + long + "e5", "1e400", "1e99999", "-1.5e99999", long + "e99999", "1e" + long,
	} {
		checkValue(t, s, api.Value{}, api.ErrLimit)
		for _, wrong := range []string{"+" + s, " " + s, "0" + s, "-0" + s, s + " ", s + "x", s + "-", s + "\xFF"} {
			checkValue(t, wrong, api.Value{}, api.ErrForm)
		}
	}
	for _, s := range []string{long + ".", long + "e", long + "e+", "0." + long + "e", "0." + long + "E-", "1e" + long + ".5", long + ".x", "1e400e", "1e99999.", "0" + long} {
		checkValue(t, s, api.Value{}, api.ErrForm)
	}
}

// TestValueOfAllShort: every text of up to five bytes from those that matter.
func TestValueOfAllShort(t *testing.T) {
	const letters = "-+.eE019x"
	all := []string{""}
	for range 5 {
		var longer []string
		for _, s := range all {
			for i := range len(letters) {
				longer = append(longer, s+letters[i:i+1])
			}
		}
		for _, s := range longer {
			checkValueAsWanted(t, s)
		}
		all = longer
	}
}

// TestValueOfPowers: whole numbers around each power of 2 and of 10.
func TestValueOfPowers(t *testing.T) {
	for _, base := range []int64{2, 10} {
		n := big.NewInt(1)
		for range 300 {
			for away := int64(-2); away <= 2; away++ {
				near := new(big.Int).Add(n, big.NewInt(away))
				checkValue(t, near.String(), valueOf(near), api.OK)
				near.Neg(near)
				checkValue(t, near.String(), valueOf(near), api.OK)
			}
			n.Mul(n, big.NewInt(base))
		}
	}
}

func TestValueOfMany(t *testing.T) {
	c := chance(72)
	for range 50000 {
		checkValueAsWanted(t, c.number())
	}
	for range 2000 {
		checkValueAsWanted(t, []string{"", "-"}[c.below(2)]+c.whole(mostWhole+50))
	}
}
