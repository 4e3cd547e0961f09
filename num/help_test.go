package num_test

import (
	"math"
	"math/big"
	"regexp"
	"strconv"
	"strings"
	"testing"

	"glossator/api"
	"glossator/num"
)

const (
	signBit      = 1 << 63
	infinite     = 0x7FF << 52
	mostDigits   = 800
	mostExponent = 4
	mostWhole    = 1200
	maxUint64    = 1<<64 - 1
)

// form is that of a number, with its parts.
var form = regexp.MustCompile(`^(-?)(0|[1-9][0-9]*)(?:\.([0-9]+))?(?:[eE][+-]?([0-9]+))?$`)

// chance tells numbers that look like chance but are the same in each run.
type chance uint64

func (c *chance) word() uint64 {
	*c ^= *c << 13
	*c ^= *c >> 7
	*c ^= *c << 17
	return uint64(*c) * 0x2545F4914F6CDD1D
}

func (c *chance) below(n int) int {
	return int(c.word() >> 1 % uint64(n))
}

// digits are so many decimal digits.
func (c *chance) digits(n int) string {
	out := make([]byte, n)
	for i := range out {
		out[i] = byte('0' + c.below(10))
	}
	return string(out)
}

// whole is the whole part of a number, of n digits at most.
func (c *chance) whole(n int) string {
	d := strings.TrimLeft(c.digits(1+c.below(n)), "0")
	if d == "" {
		return "0"
	}
	return d
}

// number is a number with all its parts, or with some of them.
func (c *chance) number() string {
	s := []string{"", "-"}[c.below(2)] + c.whole(25)
	if c.below(2) == 0 {
		s += "." + c.digits(1+c.below(20))
	}
	if c.below(2) == 0 {
		s += []string{"e", "E", "e+", "E+", "e-", "E-"}[c.below(6)] + c.digits(1+c.below(3))
	}
	return s
}

// bytes are n bytes, of which the first is not 0.
func (c *chance) bytes(n int) string {
	out := make([]byte, n)
	for i := range out {
		out[i] = byte(c.word() >> 40)
	}
	out[0] |= 1
	return string(out)
}

// begins tells whether s goes on to a number, or is one.
func begins(s string) bool {
	return form.MatchString(s) || form.MatchString(s+"0")
}

// wantScan is what Scan is to tell, byte by byte by the document's words.
func wantScan(s string) (int, api.Errno) {
	at := 0
	for at < len(s) && begins(s[:at+1]) {
		at++
	}
	switch {
	case form.MatchString(s[:at]):
		return at, api.OK
	case at < len(s):
		return at, api.ErrForm
	}
	return at, api.ErrShort
}

// wantValue is what Value is to tell, by the library's numbers.
func wantValue(s string) (api.Value, api.Errno) {
	parts := form.FindStringSubmatch(s)
	switch {
	case parts == nil:
		return api.Value{}, api.ErrForm
	case s == "-0":
		return float(signBit), api.OK
	case !strings.ContainsAny(s, ".eE"):
		if len(parts[2]) > mostWhole {
			return api.Value{}, api.ErrLimit
		}
		return valueOf(bigOf(s)), api.OK
	case len(parts[2]+parts[3]) > mostDigits || len(parts[4]) > mostExponent:
		return api.Value{}, api.ErrLimit
	}
	f, err := strconv.ParseFloat(s, 64)
	if err != nil {
		return api.Value{}, api.ErrLimit
	}
	return float(math.Float64bits(f)), api.OK
}

// bigOf is the library's whole number of a text.
func bigOf(s string) *big.Int {
	n, ok := new(big.Int).SetString(s, 10)
	if !ok {
		panic("no whole number: " + s)
	}
	return n
}

// valueOf is the value of a whole number.
func valueOf(n *big.Int) api.Value {
	neg := n.Sign() < 0
	if neg {
		n = new(big.Int).Not(n)
	}
	if n.IsUint64() {
		return whole(neg, n.Uint64())
	}
	return great(neg, string(n.Bytes()))
}

// wantWhole is the text of a KInt or a KBig.
func wantWhole(v api.Value) string {
	n := new(big.Int).SetUint64(v.N)
	if v.K == api.KBig {
		n.SetBytes([]byte(v.S))
	}
	if v.Neg {
		n.Not(n)
	}
	return n.String()
}

func whole(neg bool, n uint64) api.Value {
	return api.Value{K: api.KInt, Neg: neg, N: n}
}

func great(neg bool, s string) api.Value {
	return api.Value{K: api.KBig, Neg: neg, S: s}
}

func float(bits uint64) api.Value {
	return api.Value{K: api.KF64, N: bits}
}

// same tells whether two values without others are the same.
func same(a, b api.Value) bool {
	return a.K == b.K && a.Neg == b.Neg && a.N == b.N && a.S == b.S && len(a.L) == 0 && len(b.L) == 0
}

// shown is a text, cut where it is long.
func shown(s string) string {
	if len(s) <= 60 {
		return strconv.Quote(s)
	}
	return strconv.Quote(s[:30]) + " .. " + strconv.Quote(s[len(s)-20:]) + " (" + strconv.Itoa(len(s)) + " bytes)"
}

// told is a value in few words.
func told(v api.Value) string {
	return "K " + strconv.Itoa(v.K) + " Neg " + strconv.FormatBool(v.Neg) + " N " + strconv.FormatUint(v.N, 16) +
		" S " + shown(v.S) + " L " + strconv.Itoa(len(v.L))
}

func checkScan(t *testing.T, s string, want int, wantE api.Errno) {
	t.Helper()
	if got, e := num.Scan(s); got != want || e != wantE {
		t.Fatalf("Scan(%s): %d, %v, want %d, %v", shown(s), got, e, want, wantE)
	}
}

// checkScanAsWanted asks Scan for what the document's words tell.
func checkScanAsWanted(t *testing.T, s string) {
	t.Helper()
	want, wantE := wantScan(s)
	checkScan(t, s, want, wantE)
}

func checkValue(t *testing.T, s string, want api.Value, wantE api.Errno) {
	t.Helper()
	if got, e := num.Value(s); !same(got, want) || e != wantE {
		t.Fatalf("Value(%s): %s, %v, want %s, %v", shown(s), told(got), e, told(want), wantE)
	}
}

// checkValueAsWanted asks Value for what the library's numbers tell.
func checkValueAsWanted(t *testing.T, s string) {
	t.Helper()
	want, wantE := wantValue(s)
	checkValue(t, s, want, wantE)
}

func checkText(t *testing.T, v api.Value, want string, wantE api.Errno) {
	t.Helper()
	if got, e := num.Text(v); got != want || e != wantE {
		t.Fatalf("Text(%s): %s, %v, want %s, %v", told(v), shown(got), e, shown(want), wantE)
	}
}
