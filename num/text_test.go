package num_test

import (
	"math"
	"strings"
	"testing"

	"glossator/api"
	"glossator/fdec"
	"glossator/num"
)

func TestTextOfInt(t *testing.T) {
	for _, x := range []struct {
		neg  bool
		n    uint64
		want string
	}{
		{false, 0, "0"}, {true, 0, "-1"}, {false, 1, "1"}, {true, 1, "-2"}, {false, 9, "9"}, {true, 9, "-10"}, {false, 10, "10"}, {true, 99, "-100"},
		{false, 1<<32 - 1, "4294967295"}, {true, 1<<32 - 1, "-4294967296"}, {false, 1 << 32, "4294967296"}, {true, 1 << 32, "-4294967297"},
		{false, 1<<63 - 1, "9223372036854775807"}, {true, 1<<63 - 1, "-9223372036854775808"}, {false, 1 << 63, "9223372036854775808"}, {true, 1 << 63, "-9223372036854775809"},
		{false, maxUint64 - 1, "18446744073709551614"}, {true, maxUint64 - 1, "-18446744073709551615"},
		{false, maxUint64, "18446744073709551615"}, {true, maxUint64, "-18446744073709551616"},
	} {
		checkText(t, whole(x.neg, x.n), x.want, api.OK)
	}
	c := chance(73)
	for range 2000 {
		v := whole(c.below(2) == 0, c.word()>>c.below(64))
		checkText(t, v, wantWhole(v), api.OK)
	}
}

func TestTextOfBig(t *testing.T) {
	for _, x := range []struct {
		neg  bool
		s    string
		want string
	}{
		{false, twoTo64, "18446744073709551616"}, {true, twoTo64, "-18446744073709551617"},
		{false, twoTo64[:8] + "\x01", "18446744073709551617"}, {true, twoTo64[:8] + "\x01", "-18446744073709551618"},
		{false, strings.Repeat("\xFF", 9), "4722366482869645213695"}, {true, strings.Repeat("\xFF", 9), "-4722366482869645213696"},
		{false, twoTo64 + "\x00", "4722366482869645213696"}, {true, twoTo64 + "\x00", "-4722366482869645213697"},
	} {
		checkText(t, great(x.neg, x.s), x.want, api.OK)
	}
	c := chance(74)
	for n := 9; n <= api.MaxBig; n++ {
		for _, s := range []string{"\x01" + strings.Repeat("\x00", n-1), strings.Repeat("\xFF", n), "\x80" + strings.Repeat("\x00", n-1), c.bytes(n)} {
			for _, neg := range []bool{false, true} {
				v := great(neg, s)
				checkText(t, v, wantWhole(v), api.OK)
			}
		}
	}
}

// TestTextOfGreatest: all bytes that a KBig may have are told, in more digits
// than Value reads.
func TestTextOfGreatest(t *testing.T) {
	const digits = 1234
	for _, neg := range []bool{false, true} {
		v := great(neg, strings.Repeat("\xFF", api.MaxBig))
		s, e := num.Text(v)
		if s != wantWhole(v) || len(strings.TrimPrefix(s, "-")) != digits || e != api.OK {
			t.Fatalf("Text(%s): %s, %v", told(v), shown(s), e)
		}
		checkValue(t, s, api.Value{}, api.ErrLimit)
	}
}

func TestTextOfFloat(t *testing.T) {
	for _, x := range []struct {
		bits uint64
		want string
	}{
		{0, "0.0"}, {signBit, "-0.0"}, {0x3FF0000000000000, "1.0"}, {0xBFF0000000000000, "-1.0"}, {0x3FB999999999999A, "0.1"}, {0xBFF8000000000000, "-1.5"},
		{0x4340000000000000, "9007199254740992.0"}, {0x43F0000000000000, "18446744073709552000.0"}, {0x4480F0CF064DD592, "1e22"}, {0x3E7AD7F29ABCAF48, "1e-7"},
		{1, "5e-324"}, {signBit | 1, "-5e-324"}, {infinite - 1, "1.7976931348623157e308"}, {signBit | infinite - 1, "-1.7976931348623157e308"},
	} {
		checkText(t, float(x.bits), x.want, api.OK)
	}
	c := chance(75)
	for range 5000 {
		bits := c.word()
		want, e := fdec.Text(bits)
		if e != api.OK {
			continue
		}
		checkText(t, float(bits), want, api.OK)
	}
}

func TestTextOfNoFiniteFloat(t *testing.T) {
	for _, bits := range []uint64{
		infinite, signBit | infinite, infinite + 1, signBit | infinite + 1, 0x7FF8000000000000, 0xFFF8000000000000, signBit - 1, maxUint64,
	} {
		checkText(t, float(bits), "", api.ErrSay)
	}
}

// TestTextOfOthers: right trees of every kind that is no number here.
func TestTextOfOthers(t *testing.T) {
	one := whole(false, 1)
	for _, v := range []api.Value{
		{}, {K: api.KNull}, {K: api.KBool}, {K: api.KBool, N: 1}, {K: api.KUndef}, {K: api.KSimple}, {K: api.KSimple, N: 19}, {K: api.KSimple, N: 255},
		{K: api.KF16}, {K: api.KF16, N: 0x3C00}, {K: api.KF32}, {K: api.KF32, N: 0x3F800000}, {K: api.KBytes}, {K: api.KBytes, S: twoTo64}, {K: api.KText}, {K: api.KText, S: "1"},
		{K: api.KList}, {K: api.KList, L: []api.Value{one}}, {K: api.KMap}, {K: api.KMap, L: []api.Value{one, one}}, {K: api.KTag, L: []api.Value{one}},
		{K: api.KTag, N: 2, L: []api.Value{one}}, {K: api.KExt}, {K: api.KExt, N: 1, S: twoTo64},
	} {
		checkText(t, v, "", api.ErrSay)
	}
}

// TestTextOfNoKind: kinds that there are not, with what a number has.
func TestTextOfNoKind(t *testing.T) {
	for _, k := range []int{-1, api.KEnd, 16, 100, 1<<32 + api.KInt, math.MinInt, math.MaxInt, math.MinInt + api.KF64} {
		checkText(t, api.Value{K: k}, "", api.ErrSay)
		checkText(t, api.Value{K: k, N: 1}, "", api.ErrSay)
		checkText(t, api.Value{K: k, S: twoTo64}, "", api.ErrSay)
	}
}

// TestTextOfNoRightTree: what value.Check refuses of the three kinds.
func TestTextOfNoRightTree(t *testing.T) {
	null := []api.Value{{}}
	many := make([]api.Value, api.MaxNodes)
	deep := []api.Value{}
	for range api.MaxDepth + 1 {
		deep = []api.Value{{K: api.KList, L: deep}}
	}
	for _, v := range []api.Value{
		{K: api.KInt, S: "1"}, {K: api.KInt, S: twoTo64}, {K: api.KInt, N: 1, S: "\x00"}, {K: api.KInt, Neg: true, S: "1"},
		// Of too few bytes, of too many, and with a byte 0 ahead.
		{K: api.KBig}, {K: api.KBig, Neg: true}, {K: api.KBig, S: "\x01"}, {K: api.KBig, S: strings.Repeat("\xFF", 8)}, {K: api.KBig, Neg: true, S: strings.Repeat("\xFF", 8)},
		{K: api.KBig, S: "\x00" + twoTo64}, {K: api.KBig, S: "\x00" + twoTo64[:8]}, {K: api.KBig, Neg: true, S: "\x00" + twoTo64}, {K: api.KBig, S: strings.Repeat("\x00", 9)},
		{K: api.KBig, S: "\x00" + strings.Repeat("\xFF", api.MaxBig-1)}, {K: api.KBig, S: "\x00" + strings.Repeat("\xFF", api.MaxBig)},
		{K: api.KBig, S: strings.Repeat("\xFF", api.MaxBig+1)}, {K: api.KBig, Neg: true, S: "\x01" + strings.Repeat("\x00", api.MaxBig)}, {K: api.KBig, S: strings.Repeat("1", 1<<20)},
		{K: api.KBig, N: 1, S: twoTo64}, {K: api.KBig, N: maxUint64, S: twoTo64}, {K: api.KBig, N: 1},
		{K: api.KF64, Neg: true}, {K: api.KF64, Neg: true, N: 0x3FF0000000000000}, {K: api.KF64, N: 0x3FF0000000000000, S: "1"}, {K: api.KF64, S: "\x00"},
	} {
		checkText(t, v, "", api.ErrSay)
	}
	for _, l := range [][]api.Value{null, many, deep, {whole(false, 1), whole(false, 1)}} {
		for _, v := range []api.Value{whole(false, 1), whole(true, 0), great(false, twoTo64), great(true, twoTo64), float(0), float(0x3FF0000000000000)} {
			v.L = l
			checkText(t, v, "", api.ErrSay)
		}
	}
}

// TestTextOfEmptyLists: an empty list is as none.
func TestTextOfEmptyLists(t *testing.T) {
	for _, v := range []api.Value{whole(true, 41), great(false, twoTo64), float(signBit)} {
		want, _ := num.Text(v)
		v.L = []api.Value{}
		checkText(t, v, want, api.OK)
	}
}
