package fbits_test

import (
	"math"
	"math/big"
	"strconv"
	"strings"
	"testing"

	"glossator/api"
	"glossator/fbits"
)

// widths are all that there are.
var widths = []int{16, 32, 64}

// exponentBits and fractionBits are those of each width.
var (
	exponentBits = map[int]int{16: 5, 32: 8, 64: 11}
	fractionBits = map[int]int{16: 10, 32: 23, 64: 52}
)

// noWidths are numbers that are no width.
var noWidths = []int{
	0, -1, -8, -10, -16, -32, -64, 1, 2, 8, 10, 11, 15, 17, 24, 31, 33, 52, 63, 65, 80, 128, 256, 1<<16 + 16, 1<<32 + 16, 1<<32 + 64,
	math.MinInt, math.MinInt + 16, math.MaxInt,
}

// edge is a float at a border of a class.
type edge struct {
	width    int
	bits     uint64
	class    int
	neg      bool
	exponent int
	fraction uint64
	wide     uint64
}

// edges are those of the document, of each width.
var edges = []edge{
	{16, 0x0000, fbits.Zero, false, 0, 0, 0},
	{16, 0x8000, fbits.Zero, true, 0, 0, 0x8000000000000000},
	{16, 0x0001, fbits.Small, false, 0, 1, 0x3E70000000000000},
	{16, 0x8001, fbits.Small, true, 0, 1, 0xBE70000000000000},
	{16, 0x03FF, fbits.Small, false, 0, 0x3FF, 0x3F0FF80000000000},
	{16, 0x83FF, fbits.Small, true, 0, 0x3FF, 0xBF0FF80000000000},
	{16, 0x0400, fbits.Plain, false, 1, 0, 0x3F10000000000000},
	{16, 0x8400, fbits.Plain, true, 1, 0, 0xBF10000000000000},
	{16, 0x3C00, fbits.Plain, false, 15, 0, 0x3FF0000000000000},
	{16, 0x3E00, fbits.Plain, false, 15, 0x200, 0x3FF8000000000000},
	{16, 0x7BFF, fbits.Plain, false, 30, 0x3FF, 0x40EFFC0000000000},
	{16, 0xFBFF, fbits.Plain, true, 30, 0x3FF, 0xC0EFFC0000000000},
	{16, 0x7C00, fbits.Inf, false, 31, 0, 0x7FF0000000000000},
	{16, 0xFC00, fbits.Inf, true, 31, 0, 0xFFF0000000000000},
	{16, 0x7C01, fbits.Nan, false, 31, 1, 0x7FF0040000000000},
	{16, 0xFC01, fbits.Nan, true, 31, 1, 0xFFF0040000000000},
	{16, 0x7E00, fbits.Nan, false, 31, 0x200, 0x7FF8000000000000},
	{16, 0xFE00, fbits.Nan, true, 31, 0x200, 0xFFF8000000000000},
	{16, 0x7FFF, fbits.Nan, false, 31, 0x3FF, 0x7FFFFC0000000000},
	{16, 0xFFFF, fbits.Nan, true, 31, 0x3FF, 0xFFFFFC0000000000},

	{32, 0x00000000, fbits.Zero, false, 0, 0, 0},
	{32, 0x80000000, fbits.Zero, true, 0, 0, 0x8000000000000000},
	{32, 0x00000001, fbits.Small, false, 0, 1, 0x36A0000000000000},
	{32, 0x80000001, fbits.Small, true, 0, 1, 0xB6A0000000000000},
	{32, 0x007FFFFF, fbits.Small, false, 0, 0x7FFFFF, 0x380FFFFFC0000000},
	{32, 0x807FFFFF, fbits.Small, true, 0, 0x7FFFFF, 0xB80FFFFFC0000000},
	{32, 0x00800000, fbits.Plain, false, 1, 0, 0x3810000000000000},
	{32, 0x80800000, fbits.Plain, true, 1, 0, 0xB810000000000000},
	{32, 0x3F800000, fbits.Plain, false, 127, 0, 0x3FF0000000000000},
	{32, 0x7F7FFFFF, fbits.Plain, false, 254, 0x7FFFFF, 0x47EFFFFFE0000000},
	{32, 0xFF7FFFFF, fbits.Plain, true, 254, 0x7FFFFF, 0xC7EFFFFFE0000000},
	{32, 0x7F800000, fbits.Inf, false, 255, 0, 0x7FF0000000000000},
	{32, 0xFF800000, fbits.Inf, true, 255, 0, 0xFFF0000000000000},
	{32, 0x7F800001, fbits.Nan, false, 255, 1, 0x7FF0000020000000},
	{32, 0xFF800001, fbits.Nan, true, 255, 1, 0xFFF0000020000000},
	{32, 0x7FC00000, fbits.Nan, false, 255, 0x400000, 0x7FF8000000000000},
	{32, 0xFFC00000, fbits.Nan, true, 255, 0x400000, 0xFFF8000000000000},
	{32, 0x7FFFFFFF, fbits.Nan, false, 255, 0x7FFFFF, 0x7FFFFFFFE0000000},
	{32, 0xFFFFFFFF, fbits.Nan, true, 255, 0x7FFFFF, 0xFFFFFFFFE0000000},

	{64, 0x0000000000000000, fbits.Zero, false, 0, 0, 0x0000000000000000},
	{64, 0x8000000000000000, fbits.Zero, true, 0, 0, 0x8000000000000000},
	{64, 0x0000000000000001, fbits.Small, false, 0, 1, 0x0000000000000001},
	{64, 0x8000000000000001, fbits.Small, true, 0, 1, 0x8000000000000001},
	{64, 0x000FFFFFFFFFFFFF, fbits.Small, false, 0, 0xFFFFFFFFFFFFF, 0x000FFFFFFFFFFFFF},
	{64, 0x800FFFFFFFFFFFFF, fbits.Small, true, 0, 0xFFFFFFFFFFFFF, 0x800FFFFFFFFFFFFF},
	{64, 0x0010000000000000, fbits.Plain, false, 1, 0, 0x0010000000000000},
	{64, 0x8010000000000000, fbits.Plain, true, 1, 0, 0x8010000000000000},
	{64, 0x3FF0000000000000, fbits.Plain, false, 1023, 0, 0x3FF0000000000000},
	{64, 0x7FEFFFFFFFFFFFFF, fbits.Plain, false, 2046, 0xFFFFFFFFFFFFF, 0x7FEFFFFFFFFFFFFF},
	{64, 0xFFEFFFFFFFFFFFFF, fbits.Plain, true, 2046, 0xFFFFFFFFFFFFF, 0xFFEFFFFFFFFFFFFF},
	{64, 0x7FF0000000000000, fbits.Inf, false, 2047, 0, 0x7FF0000000000000},
	{64, 0xFFF0000000000000, fbits.Inf, true, 2047, 0, 0xFFF0000000000000},
	{64, 0x7FF0000000000001, fbits.Nan, false, 2047, 1, 0x7FF0000000000001},
	{64, 0xFFF0000000000001, fbits.Nan, true, 2047, 1, 0xFFF0000000000001},
	{64, 0x7FF8000000000000, fbits.Nan, false, 2047, 0x8000000000000, 0x7FF8000000000000},
	{64, 0xFFF8000000000000, fbits.Nan, true, 2047, 0x8000000000000, 0xFFF8000000000000},
	{64, 0x7FFFFFFFFFFFFFFF, fbits.Nan, false, 2047, 0xFFFFFFFFFFFFF, 0x7FFFFFFFFFFFFFFF},
	{64, 0xFFFFFFFFFFFFFFFF, fbits.Nan, true, 2047, 0xFFFFFFFFFFFFF, 0xFFFFFFFFFFFFFFFF},
}

// chance tells numbers that look like chance but are the same in each run.
type chance uint64

func (c *chance) word() uint64 {
	*c ^= *c << 13
	*c ^= *c >> 7
	*c ^= *c << 17
	return uint64(*c) * 0x2545F4914F6CDD1D
}

// float is bits of width 32 or 64, few of them or many set, of all classes.
func (c *chance) float(width int) uint64 {
	f, x := fractionBits[width], exponentBits[width]
	fraction := c.word() >> (64 - f)
	switch c.word() % 4 {
	case 0:
		fraction = fraction << (c.word() % uint64(f)) & (1<<f - 1)
	case 1:
		fraction = 1 << (c.word() % uint64(f))
	}
	exponent := c.word() >> (64 - x)
	switch c.word() % 8 {
	case 0:
		exponent = 0
	case 1:
		exponent = 1<<x - 1
	case 2, 3, 4:
		// About 1, where width 16 has numbers.
		exponent = 1<<(x-1) - 40 + c.word()%80
	case 5:
		// About the least and the greatest of width 32, if there are others.
		exponent = (1<<(x-1) - 160 + c.word()%320) % (1 << x)
	}
	return c.word()>>63<<(width-1) | exponent<<f | fraction
}

// parts cuts bits, written as signs 0 and 1, into the sign, the exponent and
// the fraction.
func parts(width int, b uint64) (string, string, string) {
	s := strconv.FormatUint(b, 2)
	s = strings.Repeat("0", width-len(s)) + s
	end := 1 + exponentBits[width]
	return s[:1], s[1:end], s[end:]
}

// number is what signs 0 and 1 count.
func number(signs string) uint64 {
	n, err := strconv.ParseUint(signs, 2, 64)
	if err != nil {
		panic(err)
	}
	return n
}

// wantClass is what Class is to tell, by the document's words.
func wantClass(width int, b uint64) int {
	_, exponent, fraction := parts(width, b)
	some := strings.Contains(fraction, "1")
	switch {
	case !strings.Contains(exponent, "0") && some:
		return fbits.Nan
	case !strings.Contains(exponent, "0"):
		return fbits.Inf
	case strings.Contains(exponent, "1"):
		return fbits.Plain
	case some:
		return fbits.Small
	}
	return fbits.Zero
}

// wantWiden is what Widen is to tell: by signs of what is not finite, by the
// library's floats of what is.
func wantWiden(width int, b uint64) uint64 {
	sign, exponent, fraction := parts(width, b)
	switch class := wantClass(width, b); {
	case class == fbits.Nan || class == fbits.Inf:
		return number(sign + strings.Repeat("1", 11) + fraction + strings.Repeat("0", 52-len(fraction)))
	case width == 64:
		return b
	case width == 32:
		return math.Float64bits(float64(math.Float32frombits(uint32(b))))
	}
	var amount float64
	if x := int(number(exponent)); x == 0 {
		amount = math.Ldexp(float64(number(fraction)), -24)
	} else {
		amount = math.Ldexp(float64(number("1"+fraction)), x-25)
	}
	if sign == "1" {
		amount = math.Copysign(amount, -1)
	}
	return math.Float64bits(amount)
}

// widened tells of each bits of width 64 that a float of width 16 widens to
// those of width 16.
var widened = func() map[uint64]uint64 {
	out := map[uint64]uint64{}
	for b := range uint64(1 << 16) {
		out[wantWiden(16, b)] = b
	}
	return out
}()

// wantNarrow is what Narrow is to tell.
func wantNarrow(width int, b uint64) (uint64, bool) {
	switch width {
	case 16:
		narrow, ok := widened[b]
		return narrow, ok
	case 64:
		return b, true
	}
	sign, exponent, fraction := parts(64, b)
	var narrow uint64
	if strings.Contains(exponent, "0") {
		narrow = uint64(math.Float32bits(float32(math.Float64frombits(b))))
	} else {
		narrow = number(sign + exponent[:8] + fraction[:23])
	}
	if wantWiden(32, narrow) != b {
		return 0, false
	}
	return narrow, true
}

// wantLeast is what Least is to tell.
func wantLeast(b uint64) (int, uint64) {
	for _, width := range widths {
		if narrow, ok := wantNarrow(width, b); ok {
			return width, narrow
		}
	}
	panic("64 bits have what they have")
}

// wantInt is what Int is to tell, by the library's exact numbers.
func wantInt(b uint64) (bool, uint64, bool) {
	r := new(big.Rat).SetFloat64(math.Float64frombits(b))
	if r == nil || !r.IsInt() || b == 1<<63 {
		return false, 0, false
	}
	n := new(big.Int).Set(r.Num())
	neg := n.Sign() < 0
	if neg {
		n.Not(n)
	}
	if !n.IsUint64() {
		return false, 0, false
	}
	return neg, n.Uint64(), true
}

// wantFromInt is what FromInt is to tell, by the library's exact numbers.
func wantFromInt(neg bool, n uint64) (uint64, bool) {
	whole := new(big.Int).SetUint64(n)
	if neg {
		whole.Not(whole)
	}
	f, accuracy := new(big.Float).SetInt(whole).Float64()
	if accuracy != big.Exact {
		return 0, false
	}
	return math.Float64bits(f), true
}

func checkClass(t *testing.T, width int, b uint64, want int, wantE api.Errno) {
	t.Helper()
	if got, e := fbits.Class(width, b); got != want || e != wantE {
		t.Fatalf("Class(%d, %X): %d, %v, want %d, %v", width, b, got, e, want, wantE)
	}
}

func checkParts(t *testing.T, width int, b uint64, neg bool, exponent int, fraction uint64, wantE api.Errno) {
	t.Helper()
	gotNeg, gotExponent, gotFraction, e := fbits.Parts(width, b)
	if gotNeg != neg || gotExponent != exponent || gotFraction != fraction || e != wantE {
		t.Fatalf("Parts(%d, %X): %v, %d, %X, %v, want %v, %d, %X, %v", width, b, gotNeg, gotExponent, gotFraction, e, neg, exponent, fraction, wantE)
	}
}

func checkWiden(t *testing.T, width int, b uint64, want uint64, wantE api.Errno) {
	t.Helper()
	if got, e := fbits.Widen(width, b); got != want || e != wantE {
		t.Fatalf("Widen(%d, %X): %X, %v, want %X, %v", width, b, got, e, want, wantE)
	}
}

func checkNarrow(t *testing.T, width int, b uint64, want uint64, wantOk bool, wantE api.Errno) {
	t.Helper()
	if got, ok, e := fbits.Narrow(width, b); got != want || ok != wantOk || e != wantE {
		t.Fatalf("Narrow(%d, %X): %X, %v, %v, want %X, %v, %v", width, b, got, ok, e, want, wantOk, wantE)
	}
}

func checkExact(t *testing.T, b uint64, neg bool, m uint64, e int, wantOk bool) {
	t.Helper()
	gotNeg, gotM, gotE, ok := fbits.Exact(b)
	if gotNeg != neg || gotM != m || gotE != e || ok != wantOk {
		t.Fatalf("Exact(%X): %v, %X, %d, %v, want %v, %X, %d, %v", b, gotNeg, gotM, gotE, ok, neg, m, e, wantOk)
	}
}

func checkInt(t *testing.T, b uint64, neg bool, n uint64, wantOk bool) {
	t.Helper()
	if gotNeg, got, ok := fbits.Int(b); gotNeg != neg || got != n || ok != wantOk {
		t.Fatalf("Int(%X): %v, %X, %v, want %v, %X, %v", b, gotNeg, got, ok, neg, n, wantOk)
	}
}

func checkFromInt(t *testing.T, neg bool, n uint64, want uint64, wantOk bool) {
	t.Helper()
	if got, ok := fbits.FromInt(neg, n); got != want || ok != wantOk {
		t.Fatalf("FromInt(%v, %X): %X, %v, want %X, %v", neg, n, got, ok, want, wantOk)
	}
}

func checkLeast(t *testing.T, b uint64, width int, want uint64) {
	t.Helper()
	if gotWidth, got := fbits.Least(b); gotWidth != width || got != want {
		t.Fatalf("Least(%X): %d, %X, want %d, %X", b, gotWidth, got, width, want)
	}
}
