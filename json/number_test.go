package json_test

import (
	"strings"
	"testing"

	"glossator/api"
)

func zeros(n int) string  { return strings.Repeat("0", n) }
func eights(n int) string { return strings.Repeat("8", n) }

// numbers are such that are taken, with what they say.
func numbers() []struct {
	s string
	v api.Value
} {
	return []struct {
		s string
		v api.Value
	}{
		{"0", whole(0)}, {"-0", f64(1 << 63)}, {"1", whole(1)}, {"-1", below(0)}, {"9", whole(9)}, {"10", whole(10)}, {"-10", below(9)}, {"123456789", whole(123456789)},
		{"4294967295", whole(1<<32 - 1)}, {"4294967296", whole(1 << 32)}, {"9007199254740993", whole(1<<53 + 1)}, {"9223372036854775807", whole(1<<63 - 1)}, {"9223372036854775808", whole(1 << 63)}, {"-9223372036854775808", below(1<<63 - 1)}, {"-9223372036854775809", below(1 << 63)},
		{"18446744073709551614", whole(maxUint64 - 1)}, {"18446744073709551615", whole(maxUint64)}, {"18446744073709551616", great(big(9))}, {"18446744073709551617", great("\x01\x00\x00\x00\x00\x00\x00\x00\x01")},
		{"-18446744073709551615", below(maxUint64 - 1)}, {"-18446744073709551616", below(maxUint64)}, {"-18446744073709551617", greatBelow(big(9))}, {"-18446744073709551618", greatBelow("\x01\x00\x00\x00\x00\x00\x00\x00\x01")},
		{"1.0", f64(0x3FF0000000000000)}, {"-1.0", f64(0xBFF0000000000000)}, {"0.0", f64(0)}, {"-0.0", f64(1 << 63)}, {"1.5", f64(0x3FF8000000000000)}, {"0.1", f64(0x3FB999999999999A)}, {"100.000", f64(0x4059000000000000)}, {"18446744073709551616.0", f64(0x43F0000000000000)},
		{"1e0", f64(0x3FF0000000000000)}, {"1E0", f64(0x3FF0000000000000)}, {"1e+0", f64(0x3FF0000000000000)}, {"1e-0", f64(0x3FF0000000000000)}, {"0e0", f64(0)}, {"-0e0", f64(1 << 63)}, {"1e2", f64(0x4059000000000000)}, {"10e1", f64(0x4059000000000000)}, {"1000e-1", f64(0x4059000000000000)}, {"1.00E+02", f64(0x4059000000000000)}, {"-15e-1", f64(0xBFF8000000000000)}, {"1e0002", f64(0x4059000000000000)},
		{"5e-324", f64(1)}, {"2e-324", f64(0)}, {"-2e-324", f64(1 << 63)}, {"3e-324", f64(1)}, {"1e-9999", f64(0)}, {"-1e-9999", f64(1 << 63)}, {"0e9999", f64(0)}, {"-0e9999", f64(1 << 63)}, {"0.0e+9999", f64(0)}, {"1e308", f64(0x7FE1CCF385EBC8A0)}, {"1.7976931348623157e308", f64(0x7FEFFFFFFFFFFFFF)}, {"1.7976931348623158e308", f64(0x7FEFFFFFFFFFFFFF)}, {"-1.7976931348623157e+308", f64(0xFFEFFFFFFFFFFFFF)}, {"9007199254740993.0", f64(0x4340000000000000)},
		{"0." + zeros(799), f64(0)}, {"1." + zeros(799), f64(0x3FF0000000000000)}, {"1" + zeros(799) + "e-799", f64(0x3FF0000000000000)}, {"0." + zeros(798) + "1e799", f64(0x3FF0000000000000)}, {"-1." + zeros(799) + "e-0000", f64(0xBFF0000000000000)},
	}
}

// greats are numbers that are refused when they are whole.
func greats() []string {
	return []string{
		eights(1201), "-" + eights(1201), "1" + zeros(1200), "-1" + zeros(1200), eights(5000),
		"0." + zeros(800), "1." + eights(800), eights(800) + ".0", eights(801) + "e-500", eights(801) + ".0e-999", "-0." + zeros(800) + "e1", "0." + eights(3000),
		"1e10000", "1e-10000", "1e00000", "1e+00001", "0e10000", "1.5e-00001", "1E99999999999999999999",
		"1e309", "-1e309", "1e400", "1.8e308", "1.7976931348623159e308", "-1.7976931348623159e308", "1e9999", "9999e9999", eights(310) + ".0", eights(310) + "e0", "0.1e310", "1e0309",
	}
}

// TestNumbers: each that is taken, in each shape.
func TestNumbers(t *testing.T) {
	for _, one := range numbers() {
		for _, x := range shapes() {
			s := x.ahead + one.s + x.behind
			checkTaken(t, s, most, x.around(one.v))
			checkTaken(t, s+"\n", size(len(s)+1), x.around(one.v))
			// Nothing behind it: it is whole, but not what it stands in.
			if x.ahead != "" {
				checkRefused(t, x.ahead+one.s, most, len(x.ahead+one.s), api.ErrShort)
			}
			checkRefused(t, x.ahead+one.s+"x", most, len(x.ahead+one.s), api.ErrForm)
		}
	}
}

// TestNumbersOfManyDigits: just as many as may be.
func TestNumbersOfManyDigits(t *testing.T) {
	for _, s := range []string{eights(1200), "-" + eights(1200), "1" + zeros(1199), "-1" + zeros(1199), eights(1199), eights(800) + "e-500", eights(300) + "." + eights(500), "0." + eights(799), "-" + eights(800) + "e-0999", "0." + eights(799) + "e+0001"} {
		v, ok := wantNumber(s)
		if !ok {
			t.Fatalf("%s is refused", short(s))
		}
		checkTaken(t, s, most, v)
		checkTaken(t, "["+s+" ]", most, list(v))
		checkRefused(t, "["+s, most, 1+len(s), api.ErrShort)
	}
}

// TestGreatNumbers: each that is refused, when it is whole: at the end, or when
// a byte stands behind that can't belong to it, whatever that is.
func TestGreatNumbers(t *testing.T) {
	for _, s := range greats() {
		for _, x := range shapes() {
			at := len(x.ahead)
			for _, behind := range []string{"", x.behind, " ", "\n", ",", "]", "}", ":", "x", "\"", "[", "-", "\x00", "\xFF", "null", x.behind + "x"} {
				checkRefused(t, x.ahead+s+behind, most, at, api.ErrLimit)
				checkRefused(t, x.ahead+s+behind, size(len(x.ahead+s+behind)), at, api.ErrLimit)
			}
			// It ends right at the limit: it might go on.
			checkRefused(t, x.ahead+s+" ", size(at+len(s)), at+len(s), api.ErrLimit)
			checkRefused(t, x.ahead+s+"x", size(at+len(s)), at+len(s), api.ErrLimit)
			checkRefused(t, x.ahead+s+" x", size(at+len(s)+1), at, api.ErrLimit)
		}
		// It goes on and is not whole yet, or can't stand there.
		for _, x := range []struct {
			behind string
			place  int
		}{{"e", 1}, {"e+", 2}, {"E-", 2}} {
			if strings.ContainsAny(s, "eE") {
				continue
			}
			checkRefused(t, "["+s+x.behind, most, 1+len(s)+x.place, api.ErrShort)
			checkRefused(t, "["+s+x.behind+"x", most, 1+len(s)+x.place, api.ErrForm)
			checkRefused(t, "["+s+x.behind+"]", most, 1+len(s)+x.place, api.ErrForm)
		}
		checkRefused(t, "[1 "+s, most, 3, api.ErrForm)
		checkRefused(t, "{"+s, most, 1, api.ErrForm)
		checkRefused(t, "null "+s, most, 5, api.ErrForm)
	}
}

// TestNumbersCut: each cut at each of its bytes, by the end and by l.Size.
func TestNumbersCut(t *testing.T) {
	var all []string
	for _, one := range numbers() {
		all = append(all, one.s)
	}
	for _, s := range append(all, greats()...) {
		step := 1 + len(s)/60
		for cut := 0; cut <= len(s); cut += step {
			for _, ahead := range []string{"", "[", `{"a": `} {
				checkAsWanted(t, ahead+s[:cut], most)
				checkAsWanted(t, ahead+s, size(len(ahead)+cut))
				checkAsWanted(t, ahead+s+"]", size(len(ahead)+cut))
			}
		}
	}
	for _, cut := range []int{1199, 1200, 1201, 1202} {
		checkAsWanted(t, eights(1300)[:cut], most)
		checkAsWanted(t, "-"+eights(1300)[:cut], most)
		checkAsWanted(t, "[0."+eights(1300)[:cut-400], most)
		checkAsWanted(t, "[0."+eights(1300)[:cut-401]+"]", most)
	}
}

// TestNumbersOfEachByte: each byte there is, at each place of a number.
func TestNumbersOfEachByte(t *testing.T) {
	for _, s := range []string{"0", "-0", "12", "-12", "1.5", "-0.25", "1e5", "1E+5", "-12.50e-07", "18446744073709551616", "1e308", "1e0308"} {
		for at := range len(s) + 1 {
			for b := range 256 {
				x := string([]byte{byte(b)})
				for _, ahead := range []string{"", "[", `{"a":`} {
					checkAsWanted(t, ahead+s[:at]+x+s[min(at+1, len(s)):], most)
					checkAsWanted(t, ahead+s[:at]+x+s[at:], most)
					checkAsWanted(t, ahead+s[:at]+x, most)
				}
			}
		}
	}
}

// TestNumbersOfMany holds numbers of all kinds against the library's.
func TestNumbersOfMany(t *testing.T) {
	c := chance(154)
	for range 20000 {
		s := c.number()
		checkAsWanted(t, s, most)
		checkAsWanted(t, "["+s+"]", most)
		checkAsWanted(t, "["+c.changed(s)+"]", most)
		checkAsWanted(t, `{"":`+s, size(5+c.below(len(s)+2)))
	}
}

// number is a number with all its parts, or with some of them.
func (c *chance) number() string {
	s := []string{"", "-"}[c.below(2)] + []string{"0", c.digits(1 + c.below(22))}[c.below(2)]
	if c.below(2) == 0 {
		s += "." + c.digits(1+c.below(20))
	}
	if c.below(2) == 0 {
		s += []string{"e", "E", "e+", "E+", "e-", "E-"}[c.below(6)] + c.digits(1+c.below(3))
	}
	return s
}

// digits are so many decimal digits; the first is not 0.
func (c *chance) digits(n int) string {
	out := make([]byte, n)
	for i := range out {
		out[i] = byte('0' + c.below(10))
	}
	out[0] = byte('1' + c.below(9))
	return string(out)
}
