package fdec_test

import (
	"math"
	"math/big"
	"strings"
	"testing"

	"glossator/api"
	"glossator/fdec"
)

func TestRoundExamples(t *testing.T) {
	for _, x := range []struct {
		neg  bool
		d    string
		e    int
		want uint64
	}{
		{false, "1", -1, 0x3FB999999999999A}, {false, "1", 0, 0x3FF0000000000000}, {true, "1", 0, 0xBFF0000000000000}, {false, "10", -1, 0x3FF0000000000000},
		{false, "0001", 0, 0x3FF0000000000000}, {true, "15", -1, 0xBFF8000000000000}, {false, "3", -1, 0x3FD3333333333333}, {false, "1", 22, 0x4480F0CF064DD592},
		{false, "1", 23, 0x44B52D02C7E14AF6}, {false, "9999999999999999", 0, 0x4341C37937E08000}, {false, "123456789012345678", 0, 0x437B69B4BA630F35},
		// Whole numbers above 2^53, of which halves go to the even one.
		{false, "9007199254740991", 0, 0x433FFFFFFFFFFFFF}, {false, "9007199254740992", 0, 0x4340000000000000}, {false, "9007199254740993", 0, 0x4340000000000000},
		{false, "9007199254740994", 0, 0x4340000000000001}, {false, "9007199254740995", 0, 0x4340000000000002}, {false, "9007199254740996", 0, 0x4340000000000002},
		{false, "9007199254740997", 0, 0x4340000000000002}, {true, "9007199254740995", 0, 0xC340000000000002}, {true, "90071992547409930", -1, 0xC340000000000000},
		// Halves at 1, of which the lower neighbour is nearer than the upper one.
		{false, "1" + "00000000000000011102230246251565404236316680908203125", -53, 0x3FF0000000000000},
		{false, "1" + "00000000000000011102230246251565404236316680908203126", -53, 0x3FF0000000000001},
		{false, "999999999999999944488848768742172978818416595458984375", -54, 0x3FF0000000000000},
		{false, "999999999999999944488848768742172978818416595458984374", -54, 0x3FEFFFFFFFFFFFFF},
		// What is too small for any but 0.
		{false, "2", -324, 0}, {true, "2", -324, signBit}, {false, "3", -324, 1}, {true, "3", -324, signBit | 1}, {false, "1", -400, 0}, {true, "1", -2000, signBit},
		{false, strings.Repeat("9", 800), -2000, 0}, {true, strings.Repeat("9", 800), -2000, signBit},
		// The ends.
		{false, "5", -324, 1}, {false, "22250738585072009", -324, 0x000FFFFFFFFFFFFF}, {false, "22250738585072014", -324, leastPlain},
		{false, "17976931348623157", 292, greatest}, {true, "17976931348623157", 292, signBit | greatest}, {false, "179769313486231580", 291, greatest},
	} {
		checkRound(t, x.neg, x.d, x.e, x.want, api.OK)
	}
}

// TestRoundRefuses: each error, and which of several comes first.
func TestRoundRefuses(t *testing.T) {
	long := strings.Repeat("1", mostDigits+1)
	for _, x := range []struct {
		d    string
		e    int
		want api.Errno
	}{
		{long, 0, api.ErrLong}, {strings.Repeat("0", mostDigits+1), 0, api.ErrLong}, {strings.Repeat("1", 10*mostDigits), -mostE, api.ErrLong},
		{"x" + long, 0, api.ErrLong}, {long[1:] + "x", 0, api.ErrLong}, {long, mostE + 1, api.ErrLong}, {long, -mostE - 1, api.ErrLong}, {long, mostE, api.ErrLong},
		{"", 0, api.ErrForm}, {"", mostE, api.ErrForm}, {"", mostE + 1, api.ErrForm}, {"", -mostE - 1, api.ErrForm}, {"", math.MinInt, api.ErrForm},
		{"-1", 0, api.ErrForm}, {"+1", 0, api.ErrForm}, {"1.5", 0, api.ErrForm}, {"1e5", 0, api.ErrForm}, {" 1", 0, api.ErrForm}, {"1 ", 0, api.ErrForm},
		{"0x1", 0, api.ErrForm}, {"a", 0, api.ErrForm}, {"1_0", 0, api.ErrForm}, {"\u0661", 0, api.ErrForm}, {"1\x00", 0, api.ErrForm},
		{"x", mostE + 1, api.ErrForm}, {"x", math.MaxInt, api.ErrForm}, {"x", mostE, api.ErrForm},
		{"1", mostE + 1, api.ErrArg}, {"0", mostE + 1, api.ErrArg}, {"1", -mostE - 1, api.ErrArg}, {"0", -mostE - 1, api.ErrArg},
		{"1", math.MaxInt, api.ErrArg}, {"1", math.MinInt, api.ErrArg}, {"1", math.MinInt + 1, api.ErrArg}, {"1", 1 << 32, api.ErrArg}, {"1", -1 << 32, api.ErrArg},
		{"1", mostE, api.ErrLimit}, {"1", 400, api.ErrLimit}, {"1", 309, api.ErrLimit}, {"2", 308, api.ErrLimit}, {"17976931348623159", 292, api.ErrLimit},
		{long[1:], mostE, api.ErrLimit}, {long[1:], 0, api.ErrLimit}, {strings.Repeat("0", mostDigits-1) + "1", mostE, api.ErrLimit},
	} {
		checkRound(t, false, x.d, x.e, 0, x.want)
		checkRound(t, true, x.d, x.e, 0, x.want)
	}
}

// TestRoundEachByte: bytes that are no digits, at the first, a middle and the
// last place.
func TestRoundEachByte(t *testing.T) {
	for _, n := range []int{1, 2, 3, 20, mostDigits} {
		for _, at := range []int{0, n / 2, n - 1} {
			for b := range 256 {
				d := []byte(strings.Repeat("1", n))
				d[at] = byte(b)
				if '0' <= b && b <= '9' {
					checkRoundAsWanted(t, string(d), -n)
					continue
				}
				checkRound(t, false, string(d), 0, 0, api.ErrForm)
				checkRound(t, true, string(d), mostE+1, 0, api.ErrForm)
			}
		}
	}
}

// TestRoundOfAllLengths: up to 800 digits, as they come and with 0 ahead or at
// the end.
func TestRoundOfAllLengths(t *testing.T) {
	c := chance(11)
	for n := 1; n <= mostDigits; n++ {
		d := c.digits(n)
		for _, e := range []int{-n, 1 - n, -n / 2, -n - 310, 300 - n, 308 - n, 309 - n, c.below(4001) - 2000} {
			checkRoundAsWanted(t, d, e)
		}
		zeros := strings.Repeat("0", mostDigits-n)
		want, wantE := wantRound(false, d, -n)
		checkRound(t, false, zeros+d, -n, want, wantE)
		checkRound(t, false, d+zeros, -mostDigits, want, wantE)
	}
}

func TestRoundOfZero(t *testing.T) {
	for _, n := range []int{1, 2, 19, 20, 400, mostDigits} {
		for _, e := range []int{0, 1, -1, 308, 309, 400, -324, -400, mostE - 1, mostE, -mostE + 1, -mostE} {
			checkRound(t, false, strings.Repeat("0", n), e, 0, api.OK)
			checkRound(t, true, strings.Repeat("0", n), e, signBit, api.OK)
		}
	}
}

// TestRoundEachExponent: numbers that are small, fit and are too great.
func TestRoundEachExponent(t *testing.T) {
	c := chance(12)
	for e := -mostE; e <= mostE; e++ {
		checkRoundAsWanted(t, "1", e)
		checkRoundAsWanted(t, c.digits(1+c.below(40)), e)
		checkRoundAsWanted(t, c.digits(mostDigits), e)
	}
}

// checkBetween asks for the halves between the amount of these bits and the next
// one, and for what is just beside them, by a digit far behind.
func checkBetween(t *testing.T, bits uint64) {
	t.Helper()
	sum := new(big.Rat).Add(amountOf(bits), nextOf(bits))
	d, e := decimalOf(sum.Mul(sum, big.NewRat(1, 2)))
	even, aboveE := bits+bits%2, api.OK
	above := bits + 1
	if above == infinite {
		// What is nearer to the one above is too great.
		even, above, aboveE = 0, 0, api.ErrLimit
	}
	checkRound(t, false, d, e, even, aboveE)
	missing := mostDigits - len(d)
	checkRound(t, false, d+strings.Repeat("0", missing), e-missing, even, aboveE)
	checkRound(t, false, d+strings.Repeat("0", missing-1)+"1", e-missing, above, aboveE)
	less := new(big.Int).Sub(number(d, 0).Num(), big.NewInt(1)).String()
	checkRound(t, false, less+strings.Repeat("9", missing), e-missing, bits, api.OK)
	if aboveE == api.OK {
		checkRound(t, true, d, e, signBit|even, api.OK)
		checkRound(t, true, d+strings.Repeat("0", missing-1)+"1", e-missing, signBit|above, api.OK)
	}
}

// nextOf is the amount of the next float; of the greatest one 2^1024.
func nextOf(bits uint64) *big.Rat {
	if bits == greatest {
		return new(big.Rat).SetInt(new(big.Int).Lsh(big.NewInt(1), 1024))
	}
	return amountOf(bits + 1)
}

// TestRoundHalves: between 0 and the least Small, the greatest Small and the
// least Plain, the greatest Plain and what is too great, and between many more.
func TestRoundHalves(t *testing.T) {
	for _, bits := range []uint64{
		0, 1, 2, 3, 4, leastPlain / 2, leastPlain - 2, leastPlain - 1, leastPlain, leastPlain + 1, 2*leastPlain - 1, 2 * leastPlain,
		0x3FEFFFFFFFFFFFFF, 0x3FF0000000000000, 0x3FF0000000000001, 0x433FFFFFFFFFFFFF, 0x4340000000000000, 0x4340000000000001,
		greatest - 2, greatest - 1, greatest,
	} {
		checkBetween(t, bits)
	}
	for i, bits := range amounts(13) {
		if i%3 == 0 {
			checkBetween(t, bits)
		}
	}
}

// TestRoundAtTheGreatest: 2^1024 - 2^970 as a whole number, and its neighbours.
func TestRoundAtTheGreatest(t *testing.T) {
	bound := new(big.Int).Lsh(big.NewInt(1), 1024)
	bound.Sub(bound, new(big.Int).Lsh(big.NewInt(1), 970))
	d := bound.String()
	below := new(big.Int).Sub(bound, big.NewInt(1)).String()
	top := new(big.Int).Sub(bound, new(big.Int).Lsh(big.NewInt(1), 970)).String()
	for _, neg := range []bool{false, true} {
		want := uint64(greatest)
		if neg {
			want |= signBit
		}
		checkRound(t, neg, d, 0, 0, api.ErrLimit)
		checkRound(t, neg, d+"0", -1, 0, api.ErrLimit)
		checkRound(t, neg, d+"1", -1, 0, api.ErrLimit)
		checkRound(t, neg, below, 0, want, api.OK)
		checkRound(t, neg, below+strings.Repeat("9", mostDigits-len(below)), len(below)-mostDigits, want, api.OK)
		checkRound(t, neg, top, 0, want, api.OK)
	}
}

// TestRoundOfMany holds Round against the library's reader.
func TestRoundOfMany(t *testing.T) {
	c := chance(14)
	for range 200000 {
		d := c.digits(1 + c.below(25))
		e := c.below(700) - 360
		if c.below(2) == 0 {
			e = c.below(50) - 35
		}
		want, wantE := nearestTo(d, e), api.OK
		if want == infinite {
			want, wantE = 0, api.ErrLimit
		}
		checkRound(t, false, d, e, want, wantE)
	}
	// The exact digits of a float, of which there are up to 767, are the float.
	for _, bits := range amounts(15) {
		if bits == 0 {
			continue
		}
		d, e := decimalOf(amountOf(bits))
		checkRound(t, true, d, e, signBit|bits, api.OK)
	}
}

// TestSameAgain: an answer hangs on the arguments alone.
func TestSameAgain(t *testing.T) {
	for range 3 {
		checkRound(t, true, "1", -1, 0xBFB999999999999A, api.OK)
		checkRound(t, false, "1", 400, 0, api.ErrLimit)
		checkShortest(t, 0xBFB999999999999A, "1", -1, api.OK)
		checkText(t, 0xBFB999999999999A, "-0.1", api.OK)
		checkScan(t, "-0.1", 0xBFB999999999999A, api.OK)
		if bits, e := fdec.Scan("0.1e"); bits != 0 || e != api.ErrForm {
			t.Fatalf("Scan of a beginning: %X, %v", bits, e)
		}
	}
}
