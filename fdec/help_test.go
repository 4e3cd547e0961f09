package fdec_test

import (
	"math"
	"math/big"
	"regexp"
	"strconv"
	"strings"
	"testing"

	"glossator/api"
	"glossator/fdec"
)

const (
	signBit    = 1 << 63
	infinite   = 0x7FF << 52
	greatest   = infinite - 1
	leastPlain = 1 << 52
	mostDigits = 800
	mostE      = 2000
)

// notFinite are floats of no amount, with each sign.
var notFinite = []uint64{
	0x7FF0000000000000, 0xFFF0000000000000, 0x7FF0000000000001, 0xFFF0000000000001, 0x7FF8000000000000, 0xFFF8000000000000,
	0x7FFFFFFFFFFFFFFF, 0xFFFFFFFFFFFFFFFF, 0x7FF4000000000000,
}

// chance tells numbers that look like chance but are the same in each run.
type chance uint64

func (c *chance) word() uint64 {
	*c ^= *c << 13
	*c ^= *c >> 7
	*c ^= *c << 17
	return uint64(*c) * 0x2545F4914F6CDD1D
}

func (c *chance) below(n int) int {
	return int(c.word() >> 1 % uint64(n))
}

// digits are so many decimal digits, often the same one many times over.
func (c *chance) digits(n int) string {
	out := make([]byte, n)
	for i := range out {
		if i == 0 || c.below(3) > 0 {
			out[i] = byte('0' + c.below(10))
		} else {
			out[i] = "09"[c.below(2)]
		}
	}
	return string(out)
}

// amounts are bits of finite floats without the sign: of each exponent the
// fractions at its ends, and some in between.
func amounts(seed chance) []uint64 {
	var out []uint64
	for exponent := range uint64(0x7FF) {
		for _, fraction := range []uint64{0, 1, 2, 1 << 51, 1<<52 - 2, 1<<52 - 1, seed.word() >> 12, seed.word() >> 12 &^ (1<<40 - 1)} {
			out = append(out, exponent<<52|fraction)
		}
	}
	return out
}

// simple are floats that people write, with few digits and with many.
func simple(seed chance, n int) []uint64 {
	var out []uint64
	for range n {
		f := float64(seed.word() >> (11 + seed.below(53)))
		for range seed.below(9) {
			f /= 10
		}
		out = append(out, bitsOf(f))
	}
	return out
}

// power is 10^n.
func power(n int) *big.Rat {
	whole := new(big.Int).Exp(big.NewInt(10), big.NewInt(int64(max(n, -n))), nil)
	if n < 0 {
		return new(big.Rat).SetFrac(big.NewInt(1), whole)
	}
	return new(big.Rat).SetInt(whole)
}

// number is the digits d times 10^e.
func number(d string, e int) *big.Rat {
	whole, ok := new(big.Int).SetString(d, 10)
	if !ok {
		panic("no digits: " + d)
	}
	out := new(big.Rat).SetInt(whole)
	return out.Mul(out, power(e))
}

// amountOf is a finite float's amount.
func amountOf(bits uint64) *big.Rat {
	return new(big.Rat).SetFloat64(math.Float64frombits(bits &^ signBit))
}

// decimalOf is all digits of a number of which they have an end, without a 0
// behind them, and their exponent.
func decimalOf(n *big.Rat) (string, int) {
	// All denominators here are powers of 2.
	e := n.Denom().BitLen() - 1
	whole := new(big.Rat).Mul(n, power(e))
	d := whole.Num().String()
	short := strings.TrimRight(d, "0")
	return short, len(d) - len(short) - e
}

// wantRound is what Round is to tell of a right decimal, by the library's exact
// numbers.
func wantRound(neg bool, d string, e int) (uint64, api.Errno) {
	f, _ := number(d, e).Float64()
	if math.IsInf(f, 0) {
		return 0, api.ErrLimit
	}
	if neg {
		f = math.Copysign(f, -1)
	}
	return bitsOf(f), api.OK
}

// nearestTo is the amount's bits to which a decimal is nearest, or those of an
// infinite one, as the library reads it.
func nearestTo(d string, e int) uint64 {
	f, _ := strconv.ParseFloat(d+"e"+strconv.Itoa(e), 64)
	return bitsOf(f)
}

// candidate is a decimal: its digits, without a 0 at the end, its exponent, and
// how far it is from a float.
type candidate struct {
	digits   string
	exponent int
	far      *big.Rat
}

// candidateOf is the decimal d times 10^e, as far from an amount as it is.
func candidateOf(d *big.Int, e int, amount *big.Rat) candidate {
	text := d.String()
	digits := strings.TrimRight(text, "0")
	far := number(text, e)
	return candidate{digits, e + len(text) - len(digits), far.Abs(far.Sub(far, amount))}
}

// better tells whether a is to be taken ahead of b, of decimals with as many
// digits.
func better(a, b candidate) bool {
	if order := a.far.Cmp(b.far); order != 0 {
		return order < 0
	}
	return strings.ContainsAny(a.digits[len(a.digits)-1:], "2468")
}

// wantShortest is what Shortest is to tell of a finite float: of all decimals
// with one digit, with two, and so on, the best one to which it is nearest.
func wantShortest(bits uint64) (string, int) {
	bits &^= signBit
	if bits == 0 {
		return "0", 0
	}
	amount := amountOf(bits)
	_, exponent, _ := strings.Cut(strconv.FormatFloat(math.Float64frombits(bits), 'e', 40, 64), "e")
	first, _ := strconv.Atoi(exponent)
	for n := 1; ; n++ {
		place := first + 1 - n
		scaled := new(big.Rat).Mul(amount, power(-place))
		below := new(big.Int).Quo(scaled.Num(), scaled.Denom())
		var best candidate
		for away := int64(-3); away <= 4; away++ {
			d := new(big.Int).Add(below, big.NewInt(away))
			if d.Sign() <= 0 || nearestTo(d.String(), place) != bits {
				continue
			}
			next := candidateOf(d, place, amount)
			if len(next.digits) <= n && (best.far == nil || better(next, best)) {
				best = next
			}
		}
		if best.far != nil {
			return best.digits, best.exponent
		}
	}
}

// wantText is what Text is to tell of a finite float, by the library's texts.
func wantText(bits uint64) string {
	f := math.Float64frombits(bits)
	digits, exponent, _ := strings.Cut(strconv.FormatFloat(f, 'e', -1, 64), "e")
	e, _ := strconv.Atoi(exponent)
	if p := e + 1; p < -5 || p > 21 {
		return digits + "e" + strconv.Itoa(e)
	}
	plain := strconv.FormatFloat(f, 'f', -1, 64)
	if !strings.Contains(plain, ".") {
		plain += ".0"
	}
	return plain
}

// form is that of a number, with its parts.
var form = regexp.MustCompile(`^(-?)([0-9]+)(?:\.([0-9]+))?(?:[eE]([+-]?[0-9]+))?$`)

// wantScan is what Scan is to tell, by the document's words.
func wantScan(s string) (uint64, api.Errno) {
	parts := form.FindStringSubmatch(s)
	if parts == nil {
		return 0, api.ErrForm
	}
	neg, d := parts[1] == "-", parts[2]+parts[3]
	if len(d) > mostDigits || len(strings.TrimLeft(parts[4], "+-")) > 4 {
		return 0, api.ErrLong
	}
	e, _ := strconv.Atoi(parts[4])
	e -= len(parts[3])
	if strings.Trim(d, "0") != "" && e > mostE {
		return 0, api.ErrLimit
	}
	if strings.Trim(d, "0") == "" || e < -mostE {
		return wantRound(neg, "0", 0)
	}
	return wantRound(neg, d, e)
}

// shown is a text, cut where it is long.
func shown(s string) string {
	if len(s) <= 60 {
		return strconv.Quote(s)
	}
	return strconv.Quote(s[:30]) + " .. " + strconv.Quote(s[len(s)-20:]) + " (" + strconv.Itoa(len(s)) + " bytes)"
}

func bitsOf(f float64) uint64 {
	return math.Float64bits(f)
}

func checkRound(t *testing.T, neg bool, d string, e int, want uint64, wantE api.Errno) {
	t.Helper()
	if got, gotE := fdec.Round(neg, d, e); got != want || gotE != wantE {
		t.Fatalf("Round(%v, %s, %d): %016X, %v, want %016X, %v", neg, shown(d), e, got, gotE, want, wantE)
	}
}

// checkRoundAsWanted asks Round, with each sign, for what the exact numbers
// tell.
func checkRoundAsWanted(t *testing.T, d string, e int) {
	t.Helper()
	for _, neg := range []bool{false, true} {
		want, wantE := wantRound(neg, d, e)
		checkRound(t, neg, d, e, want, wantE)
	}
}

func checkShortest(t *testing.T, bits uint64, want string, wantExponent int, wantE api.Errno) {
	t.Helper()
	if got, exponent, e := fdec.Shortest(bits); got != want || exponent != wantExponent || e != wantE {
		t.Fatalf("Shortest(%016X): %q, %d, %v, want %q, %d, %v", bits, got, exponent, e, want, wantExponent, wantE)
	}
}

// checkShortestAsWanted asks Shortest, with each sign, for what the search
// finds.
func checkShortestAsWanted(t *testing.T, bits uint64) {
	t.Helper()
	want, wantExponent := wantShortest(bits)
	checkShortest(t, bits&^signBit, want, wantExponent, api.OK)
	checkShortest(t, bits|signBit, want, wantExponent, api.OK)
}

func checkText(t *testing.T, bits uint64, want string, wantE api.Errno) {
	t.Helper()
	if got, e := fdec.Text(bits); got != want || e != wantE {
		t.Fatalf("Text(%016X): %q, %v, want %q, %v", bits, got, e, want, wantE)
	}
}

func checkScan(t *testing.T, s string, want uint64, wantE api.Errno) {
	t.Helper()
	if got, e := fdec.Scan(s); got != want || e != wantE {
		t.Fatalf("Scan(%s): %016X, %v, want %016X, %v", shown(s), got, e, want, wantE)
	}
}

// checkScanAsWanted asks Scan for what the document's words tell.
func checkScanAsWanted(t *testing.T, s string) {
	t.Helper()
	want, wantE := wantScan(s)
	checkScan(t, s, want, wantE)
}
