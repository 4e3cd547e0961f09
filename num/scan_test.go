package num_test

import (
	"strings"
	"testing"

	"glossator/api"
)

// TestScanOfNumbers: what is all of a number.
func TestScanOfNumbers(t *testing.T) {
	for _, s := range []string{
		"0", "-0", "1", "-1", "9", "10", "-10", "42", "1234567890", "0.0", "-0.0", "0.5", "1.5", "-1.50", "10.01", "1.000", "0.001",
		"0e0", "0E0", "1e5", "1E5", "1e+5", "1E+5", "1e-5", "1E-5", "-0e-0", "1e00", "1e007", "1E-0099", "1.5e5", "1.5E+5", "-10.25e-17", "0.0e0",
		"18446744073709551615", "18446744073709551616", "1e400", "1e99999", "1e-99999",
		strings.Repeat("7", 5000), "-" + strings.Repeat("7", 5000), "0." + strings.Repeat("0", 5000), "1e" + strings.Repeat("0", 5000),
	} {
		checkScan(t, s, len(s), api.OK)
	}
}

// TestScanOfShort: all of the text begins a number, but is none.
func TestScanOfShort(t *testing.T) {
	for _, s := range []string{
		"", "-", "0.", "-0.", "1.", "-12.", "0e", "0E", "1e", "1E", "-1e", "12e", "1.5e", "1.5E", "0e+", "0e-", "1e+", "1e-", "1E+", "1E-", "-1.5e+", "-1.5E-",
		strings.Repeat("7", 5000) + ".", strings.Repeat("7", 5000) + "e-",
	} {
		checkScan(t, s, len(s), api.ErrShort)
	}
}

// TestScanOfWrong: no number begins with the byte at the place.
func TestScanOfWrong(t *testing.T) {
	for _, x := range []struct {
		s  string
		at int
	}{
		// No number at all.
		{"+", 0}, {"+1", 0}, {".", 0}, {".5", 0}, {"e5", 0}, {"E", 0}, {" 1", 0}, {"x", 0}, {"x1", 0}, {"\x001", 0}, {"\xFF", 0}, {"\u0661", 0}, {"\u22121", 0},
		{"/", 0}, {":", 0}, {"/1", 0}, {":1", 0}, {"null", 0}, {"NaN", 0}, {"Infinity", 0}, {",", 0}, {"\"1\"", 0}, {"[1]", 0},
		// Behind -.
		{"--", 1}, {"--1", 1}, {"-+1", 1}, {"- 1", 1}, {"-.5", 1}, {"-e5", 1}, {"-x", 1}, {"-/", 1}, {"-:", 1}, {"-Infinity", 1}, {"-\x00", 1}, {"-\xFF", 1},
		// Behind the point.
		{"1.x", 2}, {"0.x", 2}, {"-0.x", 3}, {"1..5", 2}, {"1.e5", 2}, {"1.E5", 2}, {"1.-5", 2}, {"1.+5", 2}, {"1. 5", 2}, {"1./", 2}, {"1.:", 2}, {"-12.,", 4}, {"1.\x00", 2},
		// Behind e and E.
		{"1ex", 2}, {"1Ex", 2}, {"0e.5", 2}, {"1e.5", 2}, {"1ee5", 2}, {"1eE5", 2}, {"1Ee5", 2}, {"1e 5", 2}, {"1e/", 2}, {"1e:", 2}, {"-1.5ex", 5}, {"1.5E,", 4}, {"1e\xFF", 2},
		// Behind the exponent's sign.
		{"1e+x", 3}, {"1e-x", 3}, {"1E+x", 3}, {"1E-x", 3}, {"1e++5", 3}, {"1e--5", 3}, {"1e+-5", 3}, {"1e-+5", 3}, {"1e+.5", 3}, {"1e-e5", 3}, {"1e- 5", 3}, {"1e+/", 3},
		{"1e+:", 3}, {"-1.5e+,", 6},
	} {
		checkScan(t, x.s, x.at, api.ErrForm)
		// What stands behind the byte does not count.
		checkScan(t, x.s+"0", x.at, api.ErrForm)
		checkScan(t, x.s+"e5.x", x.at, api.ErrForm)
	}
}

// TestScanOfMore: the longest number ends ahead of the text's end.
func TestScanOfMore(t *testing.T) {
	for _, x := range []struct {
		s  string
		at int
	}{
		// Behind a 0 no digit goes on.
		{"01", 1}, {"00", 1}, {"-01", 2}, {"-00", 2}, {"09.5", 1}, {"0123456789", 1}, {"-00.5e1", 2},
		{"0-", 1}, {"0+1", 1}, {"0x1F", 1}, {"0 ", 1}, {"0,", 1}, {"-0]", 2}, {"0/", 1}, {"0:", 1},
		{"1-", 1}, {"1+", 1}, {"12-3", 2}, {"1 ", 1}, {"1 2", 1}, {"12]", 2}, {"-12}", 3}, {"1,2", 1}, {"1_000", 1}, {"1x", 1}, {"1/", 1}, {"1:", 1}, {"1\x00", 1}, {"1\xFF", 1}, {"1\u0660", 1},
		{"1d5", 1}, {"1f", 1}, {"1p5", 1}, {"1D", 1}, {"1F", 1},
		// Behind a fraction.
		{"1.5.5", 3}, {"1.5.", 3}, {"0.5-", 3}, {"1.5+1", 3}, {"1.5 e5", 3}, {"1.50x", 4}, {"-0.0/", 4}, {"0.0:", 3}, {"1.2.3.4", 3},
		// Behind an exponent.
		{"1e5e5", 3}, {"1e5E5", 3}, {"1e5.5", 3}, {"1e5.", 3}, {"1e5-", 3}, {"1e5+5", 3}, {"1e+5-5", 4}, {"1E-05x", 5}, {"1.5e5.5", 5}, {"1e00 ", 4}, {"0e0/", 3}, {"0e0:", 3},
		{strings.Repeat("7", 5000) + "x", 5000}, {"0" + strings.Repeat("0", 5000), 1},
	} {
		checkScan(t, x.s, x.at, api.OK)
		checkScan(t, x.s+"0", x.at, api.OK)
	}
}

// TestScanOfAllShort: every text of up to six bytes from those that matter.
func TestScanOfAllShort(t *testing.T) {
	const letters = "-+.eE05x"
	all := []string{""}
	for range 6 {
		var longer []string
		for _, s := range all {
			checkScanAsWanted(t, s)
			for i := range len(letters) {
				longer = append(longer, s+letters[i:i+1])
			}
		}
		all = longer
	}
	for _, s := range all {
		checkScanAsWanted(t, s)
	}
}

// TestScanEachByte: any byte at any place of a number with all parts.
func TestScanEachByte(t *testing.T) {
	for _, s := range []string{"-12.34e-05", "0.0E+1", "-0"} {
		for at := range len(s) + 1 {
			for b := range 256 {
				sign := string([]byte{byte(b)})
				checkScanAsWanted(t, s[:at]+sign)
				checkScanAsWanted(t, s[:at]+sign+s[at:])
				checkScanAsWanted(t, s[:at]+sign+s[min(at+1, len(s)):])
			}
			checkScanAsWanted(t, s[:at])
			checkScanAsWanted(t, s[at:])
		}
	}
}

func TestScanOfMany(t *testing.T) {
	c := chance(71)
	for range 20000 {
		s := c.number()
		checkScan(t, s, len(s), api.OK)
		checkScanAsWanted(t, s+c.number())
		checkScanAsWanted(t, s[:c.below(len(s)+1)])
		checkScanAsWanted(t, s[c.below(len(s)+1):])
	}
}
