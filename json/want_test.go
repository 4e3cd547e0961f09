package json_test

import (
	"bytes"
	library "encoding/json"
	"math"
	mathbig "math/big"
	"slices"
	"strconv"
	"strings"
	"unicode/utf16"
	"unicode/utf8"

	"glossator/api"
)

const (
	decimals = "0123456789"
	hexes    = "0123456789abcdefABCDEF"
)

// scan reads byte by byte, by the document's words. An error that is found is
// kept, and all behind it goes on with nothing.
type scan struct {
	b      []byte // those that may be looked at
	isMore bool
	l      api.Limits
	at     int
	count  int // the values so far
	place  int
	e      api.Errno
}

func wantDecode(b []byte, l api.Limits) (api.Value, int, api.Errno) {
	if l.Depth < 0 || l.Depth > 64 || l.Size < 0 || l.Size > 1048576 {
		return api.Value{}, 0, api.ErrArg
	}
	s := scan{b: b[:min(len(b), l.Size)], isMore: len(b) > l.Size, l: l}
	s.skip()
	v := s.item(0)
	s.skip()
	if s.at < len(s.b) {
		s.fail(s.at, api.ErrForm)
	} else if s.isMore {
		s.fail(s.at, api.ErrLimit)
	}
	if s.e != api.OK {
		return api.Value{}, s.place, s.e
	}
	return v, len(b), api.OK
}

func (s *scan) fail(place int, e api.Errno) {
	if s.e == api.OK {
		s.place, s.e = place, e
	}
}

// has tells whether the next byte is there and one of these.
func (s *scan) has(of string) bool {
	return s.e == api.OK && s.at < len(s.b) && strings.IndexByte(of, s.b[s.at]) >= 0
}

// if1 reads the next byte, if it is one of these.
func (s *scan) if1(of string) bool {
	is := s.has(of)
	if is {
		s.at++
	}
	return is
}

// one reads the next byte, which must be one of these.
func (s *scan) one(of string) byte {
	switch {
	case s.if1(of):
		return s.b[s.at-1]
	case s.at < len(s.b):
		s.fail(s.at, api.ErrForm)
	case s.isMore:
		s.fail(s.at, api.ErrLimit)
	default:
		s.fail(s.at, api.ErrShort)
	}
	return 0
}

func (s *scan) skip() {
	for s.if1("\x09\x0A\x0D\x20") {
	}
}

// value tells that a value begins or stands at a place, in so many parts, which
// has others within it or is deep for another cause.
func (s *scan) value(place, parts int, deep bool) {
	s.count++
	if deep && parts+1 > s.l.Depth || s.count > 65536 {
		s.fail(place, api.ErrLimit)
	}
}

// item is a value in so many parts.
func (s *scan) item(parts int) api.Value {
	place := s.at
	var v api.Value
	switch {
	case s.has("["):
		s.value(place, parts, true)
		return list(s.list(parts)...)
	case s.has("{"):
		s.value(place, parts, true)
		return pairs(s.pairs(parts)...)
	case s.has(`"`):
		v = text(s.text())
	case s.has("-" + decimals):
		v = s.number()
	default:
		v = s.word()
	}
	if s.e == api.OK {
		s.value(place, parts, v.K == api.KBig)
	}
	return v
}

func (s *scan) word() api.Value {
	v, rest := null(), "ull"
	switch s.one("ntf") {
	case 't':
		v, rest = truth(1), "rue"
	case 'f':
		v, rest = truth(0), "alse"
	}
	for i := range rest {
		s.one(rest[i : i+1])
	}
	return v
}

func (s *scan) list(parts int) []api.Value {
	var out []api.Value
	s.one("[")
	s.skip()
	for isDone := s.if1("]"); !isDone && s.e == api.OK; s.skip() {
		out = append(out, s.item(parts+1))
		s.skip()
		isDone = s.one(",]") == ']'
		if isDone {
			break // what stands behind is another's
		}
	}
	return out
}

func (s *scan) pairs(parts int) []api.Value {
	var out []api.Value
	keys := map[string]bool{}
	s.one("{")
	s.skip()
	for isDone := s.if1("}"); !isDone && s.e == api.OK; s.skip() {
		place := s.at
		key := s.text()
		if s.e == api.OK {
			s.value(place, parts+1, false)
		}
		if keys[key] && s.l.Once {
			s.fail(s.at-1, api.ErrForm)
		}
		keys[key] = true
		s.skip()
		s.one(":")
		s.skip()
		out = append(out, text(key), s.item(parts+1))
		s.skip()
		isDone = s.one(",}") == '}'
		if isDone {
			break
		}
	}
	return out
}

func (s *scan) text() string {
	var out strings.Builder
	s.one(`"`)
	for !s.if1(`"`) && s.e == api.OK {
		switch {
		case s.if1(`\`):
			out.WriteString(s.escape())
		case s.at < len(s.b) && s.b[s.at] < 0x20:
			s.fail(s.at, api.ErrForm)
		default:
			out.WriteString(s.point())
		}
	}
	return out.String()
}

func (s *scan) escape() string {
	switch x := s.one(`"\/bfnrtu`); x {
	case 'u':
		return s.unit()
	case 'b':
		return "\x08"
	case 'f':
		return "\x0C"
	case 'n':
		return "\x0A"
	case 'r':
		return "\x0D"
	case 't':
		return "\x09"
	default:
		return string([]byte{x})
	}
}

// unit is the code point of an escape of base 16, or of two.
func (s *scan) unit() string {
	from := s.at
	if !s.if1("dD") {
		s.one(hexes)
		s.one(hexes)
	} else if s.one("01234567"+"89abAB") > '7' {
		s.one(hexes)
		s.one(hexes)
		s.one(`\`)
		s.one("u")
		s.one("dD")
		s.one("cdefCDEF")
	}
	s.one(hexes)
	s.one(hexes)
	if s.e != api.OK {
		return ""
	}
	high, _ := strconv.ParseUint(string(s.b[from:from+4]), 16, 16)
	low, _ := strconv.ParseUint(string(s.b[s.at-4:s.at]), 16, 16)
	if s.at-from > 4 {
		return string(utf16.DecodeRune(rune(high), rune(low)))
	}
	return string(rune(high))
}

// point is a code point that stands for itself.
func (s *scan) point() string {
	from := s.at
	for s.e == api.OK && (s.at == from || !utf8.Valid(s.b[from:s.at])) {
		if s.at < len(s.b) && utf8.FullRune(s.b[from:s.at+1]) && !utf8.Valid(s.b[from:s.at+1]) {
			s.fail(s.at, api.ErrForm)
			return ""
		}
		s.one(anyByte)
	}
	return string(s.b[from:s.at])
}

// anyByte are all bytes there are.
var anyByte = func() string {
	out := make([]byte, 256)
	for i := range out {
		out[i] = byte(i)
	}
	return string(out)
}()

func (s *scan) number() api.Value {
	from := s.at
	s.if1("-")
	if !s.if1("0") {
		s.digits("123456789")
	}
	if s.if1(".") {
		s.digits(decimals)
	}
	if s.if1("eE") {
		s.if1("+-")
		s.digits(decimals)
	}
	if s.at == len(s.b) && s.isMore {
		s.fail(s.at, api.ErrLimit)
	}
	if s.e != api.OK {
		return api.Value{}
	}
	v, ok := wantNumber(string(s.b[from:s.at]))
	if !ok {
		s.fail(from, api.ErrLimit)
	}
	return v
}

func (s *scan) digits(first string) {
	s.one(first)
	for s.if1(decimals) {
	}
}

// wantNumber is the value of a number, by the library's, if it is not refused.
func wantNumber(s string) (api.Value, bool) {
	digits := strings.TrimPrefix(s, "-")
	ahead, behind, _ := strings.Cut(strings.ToLower(digits), "e")
	switch {
	case s == "-0":
		return f64(1 << 63), true
	case !strings.ContainsAny(s, ".eE"):
		n, _ := new(mathbig.Int).SetString(s, 10)
		return wantWhole(n), len(digits) <= 1200
	case len(strings.Replace(ahead, ".", "", 1)) > 800 || len(strings.Trim(behind, "+-")) > 4:
		return api.Value{}, false
	}
	f, err := strconv.ParseFloat(s, 64)
	return f64(math.Float64bits(f)), err == nil
}

func wantWhole(n *mathbig.Int) api.Value {
	v := api.Value{K: api.KBig}
	if n.Sign() < 0 {
		v.Neg = true
		n = new(mathbig.Int).Not(n)
	}
	if n.IsUint64() {
		v.K, v.N = api.KInt, n.Uint64()
	} else {
		v.S = string(n.Bytes())
	}
	return v
}

// wantEncode is the text of v, which is right and which JSON says, by the
// document's words; its lines are the library's.
func wantEncode(v api.Value, o api.Option) []byte {
	out := []byte(wantLine(v, o.Sort))
	if o.Indent == 0 {
		return out
	}
	var lines bytes.Buffer
	if err := library.Indent(&lines, out, "", strings.Repeat(" ", o.Indent)); err != nil {
		panic(err)
	}
	return lines.Bytes()
}

// wantLine is a text without blanks.
func wantLine(v api.Value, isSorted bool) string {
	switch v.K {
	case api.KNull:
		return "null"
	case api.KBool:
		return strconv.FormatBool(v.N == 1)
	case api.KInt, api.KBig:
		n := new(mathbig.Int).SetBytes([]byte(v.S))
		if v.K == api.KInt {
			n.SetUint64(v.N)
		}
		if v.Neg {
			n.Not(n)
		}
		return n.String()
	case api.KF64:
		return wantFloat(v.N)
	case api.KText:
		return wantQuoted(v.S)
	}
	var parts []string
	if v.K == api.KList {
		for _, x := range v.L {
			parts = append(parts, wantLine(x, isSorted))
		}
		return "[" + strings.Join(parts, ",") + "]"
	}
	for _, place := range wantOrder(v.L, isSorted) {
		parts = append(parts, wantQuoted(v.L[place].S)+":"+wantLine(v.L[place+1], isSorted))
	}
	return "{" + strings.Join(parts, ",") + "}"
}

// wantOrder are the places of the keys of l in the order in which they are
// written.
func wantOrder(l []api.Value, isSorted bool) []int {
	var out []int
	for place := 0; place < len(l); place += 2 {
		out = append(out, place)
	}
	if isSorted {
		slices.SortFunc(out, func(a, b int) int {
			if order := bytes.Compare([]byte(l[a].S), []byte(l[b].S)); order != 0 {
				return order
			}
			return a - b
		})
	}
	return out
}

// wantFloat is the text of a finite float: the library's digits, laid out by the
// words of chapter 6.
func wantFloat(bits uint64) string {
	sign, s := "", strconv.FormatFloat(math.Float64frombits(bits), 'e', -1, 64)
	if strings.HasPrefix(s, "-") {
		sign, s = "-", s[1:]
	}
	ahead, behind, _ := strings.Cut(s, "e")
	digits := strings.Replace(ahead, ".", "", 1)
	exponent, _ := strconv.Atoi(behind)
	n, p := len(digits), exponent+1
	switch {
	case p < -5 || p > 21:
		if n > 1 {
			digits = digits[:1] + "." + digits[1:]
		}
		return sign + digits + "e" + strconv.Itoa(p-1)
	case p <= 0:
		return sign + "0." + strings.Repeat("0", -p) + digits
	case p < n:
		return sign + digits[:p] + "." + digits[p:]
	}
	return sign + digits + strings.Repeat("0", p-n) + ".0"
}

func wantQuoted(s string) string {
	var out strings.Builder
	for i := range len(s) {
		switch x := s[i]; {
		case x == '"' || x == '\\':
			out.WriteString("\\" + s[i:i+1])
		case strings.IndexByte("\x08\x0C\x0A\x0D\x09", x) >= 0:
			out.WriteString("\\" + string("bfnrt"[strings.IndexByte("\x08\x0C\x0A\x0D\x09", x)]))
		case x < 0x20:
			out.WriteString("\\u00" + strconv.FormatUint(uint64(x)+0x100, 16)[1:])
		default:
			out.WriteByte(x)
		}
	}
	return `"` + out.String() + `"`
}
