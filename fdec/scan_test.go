package fdec_test

import (
	"strconv"
	"strings"
	"testing"

	"glossator/api"
)

func TestScanExamples(t *testing.T) {
	for _, x := range []struct {
		s    string
		want uint64
	}{
		{"0", 0}, {"-0", signBit}, {"0.0", 0}, {"-0.0", signBit}, {"00", 0}, {"1", 0x3FF0000000000000}, {"-1", 0xBFF0000000000000}, {"0.1", 0x3FB999999999999A},
		{"-0.1", 0xBFB999999999999A}, {"007", 0x401C000000000000}, {"-00.50", 0xBFE0000000000000}, {"10.25", 0x4024800000000000},
		// e and E, with a sign and without.
		{"1e2", 0x4059000000000000}, {"1E2", 0x4059000000000000}, {"1e+2", 0x4059000000000000}, {"1E+2", 0x4059000000000000}, {"100e-2", 0x3FF0000000000000},
		{"100E-2", 0x3FF0000000000000}, {"-1.5e0", 0xBFF8000000000000}, {"1.5e-0", 0x3FF8000000000000}, {"1.5e+0", 0x3FF8000000000000}, {"-0.015E2", 0xBFF8000000000000},
		{"15e-01", 0x3FF8000000000000}, {"1e0002", 0x4059000000000000}, {"1e-0002", 0x3F847AE147AE147B}, {"1e0000", 0x3FF0000000000000},
		// The ends.
		{"5e-324", 1}, {"2e-324", 0}, {"-2e-324", signBit}, {"1.7976931348623157e308", greatest}, {"-17976931348623157E+292", signBit | greatest},
		{"2.2250738585072014e-308", leastPlain}, {"9007199254740993", 0x4340000000000000}, {"9007199254740993.0000000000000000001", 0x4340000000000001},
	} {
		checkScan(t, x.s, x.want, api.OK)
		checkScanAsWanted(t, x.s)
	}
}

// TestScanForm: each part missing, doubled, or somewhere else.
func TestScanForm(t *testing.T) {
	for _, s := range []string{
		"", "-", "+", ".", "e", "E", "--1", "-+1", "+1", "- 1", "1-", "1+", "-.", "-e5", "-.5", ".5", ".5e1", "1.", "-1.", "1.e5", "1.E", "1..5", "1.5.", "1.5.5", "1.-5",
		"1.+5", "1e", "1E", "1.5e", "1e+", "1e-", "1E+", "1ee5", "1eE5", "1Ee5", "1e5e5", "1e++5", "1e--5", "1e+-5", "1e-+5", "1e5-", "1e5+", "1e5.5", "1e.5", "1e5.",
		"e5", "-e5", "1e 5", "1 e5", " 1", "1 ", "\t1", "1\n", "1\x00", "\x001", "0x1", "1x", "x1", "0b1", "0o7", "1_000", "1,5", "1'000", "1e5x", "1f", "1d5", "1p5", "0x1p-2",
		"inf", "Inf", "-inf", "infinity", "Infinity", "nan", "NaN", "null", "\u0661", "1\u0660", "\uFF11", "1\xFF", "\xC3", "1\u00B2", "\u22121", "1\u00B75", "1e\u22125",
	} {
		checkScan(t, s, 0, api.ErrForm)
		checkScanAsWanted(t, s)
	}
}

// TestScanOfAllShort: every text of up to five bytes from those that matter.
func TestScanOfAllShort(t *testing.T) {
	const letters = "-+.eE05x"
	all := []string{""}
	for range 5 {
		var longer []string
		for _, s := range all {
			for i := range len(letters) {
				longer = append(longer, s+letters[i:i+1])
			}
		}
		for _, s := range longer {
			checkScanAsWanted(t, s)
		}
		all = longer
	}
}

// TestScanEachByte: any byte at any place of a number with all parts.
func TestScanEachByte(t *testing.T) {
	const s = "-12.34e-05"
	for at := range len(s) + 1 {
		for b := range 256 {
			sign := string([]byte{byte(b)})
			checkScanAsWanted(t, s[:at]+sign+s[at:])
			checkScanAsWanted(t, s[:at]+sign+s[min(at+1, len(s)):])
		}
		checkScanAsWanted(t, s[:at])
		checkScanAsWanted(t, s[at:])
	}
}

// TestScanOfLong: 800 digits and 4 are read, one more of them is not.
func TestScanOfLong(t *testing.T) {
	ones, zeros := strings.Repeat("1", mostDigits), strings.Repeat("0", mostDigits)
	for _, s := range []string{
		ones + "e-790", "-" + ones + "e-790", "0." + zeros[1:], "-0." + zeros[1:], "0." + ones[1:], ones[:400] + "." + ones[400:] + "e-300", ones[:799] + ".1e-600", zeros,
		zeros[1:] + "5", zeros[1:] + "5E2", ones + "e0", "1e0001", "1e-0001", "1e+0001", "1e9999", "0e9999", "1e-9999", zeros + "e9999", ones + "e-9999",
	} {
		checkScanAsWanted(t, s)
		if _, e := wantScan(s); e == api.ErrLong || e == api.ErrForm {
			t.Errorf("%s is meant to be read: %v", shown(s), e)
		}
	}
	for _, s := range []string{
		ones + "1", "-" + ones + "1", zeros + "0", "0." + zeros, "0." + ones, ones + ".1", ones + ".0", ones[:400] + "." + ones[399:], ones + "1e-800", "0" + ones + "e0",
		strings.Repeat("0", 10000), strings.Repeat("0", 5000) + "." + strings.Repeat("0", 5000),
		"1e00000", "1e00001", "1e-00001", "1e+00001", "1E00001", "0e00000", "1e10000", "1e-10000", "1.5e99999", "1e" + zeros, "-0.0e-" + ones, ones + "1e00000",
	} {
		checkScan(t, s, 0, api.ErrLong)
		checkScanAsWanted(t, s)
		// ErrForm comes first.
		checkScan(t, s+"x", 0, api.ErrForm)
		checkScan(t, s+"-", 0, api.ErrForm)
		checkScan(t, "+"+s, 0, api.ErrForm)
	}
	checkScan(t, ones+"1.", 0, api.ErrForm)
	checkScan(t, ones+"1e", 0, api.ErrForm)
	// ErrLong comes ahead of ErrLimit.
	checkScan(t, ones+"1e9999", 0, api.ErrLong)
	checkScan(t, "1e99999", 0, api.ErrLong)
}

// TestScanOfFarExponents: what counts is the exponent of all digits as a whole
// number, above 2000 and below -2000 too.
func TestScanOfFarExponents(t *testing.T) {
	for _, x := range []struct {
		s     string
		want  uint64
		wantE api.Errno
	}{
		{"1e309", 0, api.ErrLimit}, {"1e2000", 0, api.ErrLimit}, {"1e2001", 0, api.ErrLimit}, {"-1e2001", 0, api.ErrLimit}, {"1e9999", 0, api.ErrLimit},
		{"0.1e2001", 0, api.ErrLimit}, {"0.1e2002", 0, api.ErrLimit}, {"0.0001e2005", 0, api.ErrLimit}, {"00001.5e9999", 0, api.ErrLimit},
		{"0e2000", 0, api.OK}, {"0e2001", 0, api.OK}, {"-0e2001", signBit, api.OK}, {"0e9999", 0, api.OK}, {"-0e9999", signBit, api.OK}, {"0.0e2001", 0, api.OK},
		{"0.0e2002", 0, api.OK}, {"-0.000E+9999", signBit, api.OK}, {"-000e+3000", signBit, api.OK},
		{"1e-2000", 0, api.OK}, {"1e-2001", 0, api.OK}, {"-1e-2001", signBit, api.OK}, {"1.5e-2000", 0, api.OK}, {"-1.5e-2000", signBit, api.OK}, {"1.5e-1999", 0, api.OK},
		{"9e-9999", 0, api.OK}, {"-9e-9999", signBit, api.OK}, {"-0e-2001", signBit, api.OK}, {"0e-9999", 0, api.OK}, {"-0.0e-9999", signBit, api.OK},
		{strings.Repeat("9", 800) + "e-2001", 0, api.OK}, {"-" + strings.Repeat("9", 800) + "e-9999", signBit, api.OK},
		{"0." + strings.Repeat("9", 799) + "e-1202", 0, api.OK}, {"-0." + strings.Repeat("0", 798) + "1e-1300", signBit, api.OK},
		// Beyond by themselves, but not with the digits that they belong to.
		{"0." + strings.Repeat("0", 698) + "1e700", 0x4024000000000000, api.OK}, {"1" + strings.Repeat("0", 700) + "e-700", 0x3FF0000000000000, api.OK},
		{"0." + strings.Repeat("0", 798) + "1e2799", 0, api.ErrLimit}, {"0." + strings.Repeat("0", 798) + "1e2800", 0, api.ErrLimit},
		{"-0." + strings.Repeat("0", 799) + "e2799", signBit, api.OK}, {"0." + strings.Repeat("0", 799) + "e2800", 0, api.OK},
		{"0." + strings.Repeat("0", 798) + "1e1107", 0x7FE1CCF385EBC8A0, api.OK}, {"0." + strings.Repeat("0", 798) + "1e1108", 0, api.ErrLimit},
	} {
		checkScan(t, x.s, x.want, x.wantE)
		checkScanAsWanted(t, x.s)
	}
}

func TestScanOfMany(t *testing.T) {
	c := chance(41)
	part := func(ahead string, n int) string {
		if c.below(2) == 0 {
			return ""
		}
		return ahead + c.digits(1+c.below(n))
	}
	for range 100000 {
		s := []string{"", "-"}[c.below(2)] + c.digits(1+c.below(20)) + part(".", 20) + part([]string{"e", "E", "e+", "E+", "e-", "E-"}[c.below(6)], 3)
		checkScanAsWanted(t, s)
		if f, err := strconv.ParseFloat(s, 64); err == nil {
			checkScan(t, s, bitsOf(f), api.OK)
		} else {
			checkScan(t, s, 0, api.ErrLimit)
		}
	}
}
