package json_test

import (
	"bytes"
	"slices"
	"strconv"
	"strings"
	"testing"

	"glossator/api"
	"glossator/json"
)

const maxUint64 = 1<<64 - 1

// most are the greatest limits.
var most = api.Limits{Depth: api.MaxDepth, Size: api.MaxSize}

// once are they, too, but that keys must differ.
var once = api.Limits{Depth: api.MaxDepth, Size: api.MaxSize, Once: true}

func size(n int) api.Limits  { return api.Limits{Depth: api.MaxDepth, Size: n} }
func depth(n int) api.Limits { return api.Limits{Depth: n, Size: api.MaxSize} }

func null() api.Value                { return api.Value{K: api.KNull} }
func truth(n uint64) api.Value       { return api.Value{K: api.KBool, N: n} }
func whole(n uint64) api.Value       { return api.Value{K: api.KInt, N: n} }
func below(n uint64) api.Value       { return api.Value{K: api.KInt, Neg: true, N: n} }
func great(s string) api.Value       { return api.Value{K: api.KBig, S: s} }
func greatBelow(s string) api.Value  { return api.Value{K: api.KBig, Neg: true, S: s} }
func f64(bits uint64) api.Value      { return api.Value{K: api.KF64, N: bits} }
func raw(s string) api.Value         { return api.Value{K: api.KBytes, S: s} }
func text(s string) api.Value        { return api.Value{K: api.KText, S: s} }
func list(l ...api.Value) api.Value  { return api.Value{K: api.KList, L: l} }
func pairs(l ...api.Value) api.Value { return api.Value{K: api.KMap, L: l} }

func tag(n uint64, l ...api.Value) api.Value { return api.Value{K: api.KTag, N: n, L: l} }

func ext(n uint64, s string) api.Value { return api.Value{K: api.KExt, N: n, S: s} }

// of is a map of one text to a value.
func of(key string, v api.Value) api.Value { return pairs(text(key), v) }

// nulls are n values without others.
func nulls(n int) []api.Value { return make([]api.Value, n) }

// within is v within so many lists.
func within(lists int, v api.Value) api.Value {
	for range lists {
		v = list(v)
	}
	return v
}

// big is what a KBig of n bytes has as S.
func big(n int) string { return "\x01" + strings.Repeat("\x00", n-1) }

// blankRuns are none of blanks, each of them, and many.
func blankRuns() []string {
	return []string{"", "\t", "\n", "\r", " ", "\r\n\t ", strings.Repeat(" \n", 40)}
}

// said are texts of values without others, and what they say.
func said() []struct {
	s string
	v api.Value
} {
	return []struct {
		s string
		v api.Value
	}{
		{"null", null()}, {"true", truth(1)}, {"false", truth(0)},
		{"0", whole(0)}, {"7", whole(7)}, {"10", whole(10)}, {"-1", below(0)}, {"-10", below(9)}, {"-0", f64(1 << 63)}, {"18446744073709551615", whole(maxUint64)}, {"-18446744073709551616", below(maxUint64)},
		{"18446744073709551616", great(big(9))}, {"-18446744073709551617", greatBelow(big(9))},
		{"0.1", f64(0x3FB999999999999A)}, {"-1.5", f64(0xBFF8000000000000)}, {"1.0", f64(0x3FF0000000000000)}, {"1e0", f64(0x3FF0000000000000)}, {"10E-1", f64(0x3FF0000000000000)}, {"0.01e+2", f64(0x3FF0000000000000)}, {"1e-400", f64(0)}, {"-0.0", f64(1 << 63)},
		{`""`, text("")}, {`"a"`, text("a")}, {`"\""`, text(`"`)}, {`" [1, \\\/] "`, text(` [1, \/] `)}, {`"\b\f\n\r\t"`, text("\x08\x0C\x0A\x0D\x09")}, {`"\u0041\u20ac\uD83D\uDE00"`, text("A\u20AC\U0001F600")}, {"\"\u00FC\u20AC\U0001F600\x7F\"", text("\u00FC\u20AC\U0001F600\x7F")}, {`"null"`, text("null")}, {`"\u0000"`, text("\x00")},
	}
}

// floats are the bits of finite ones, of each class and at their ends.
func floats() []uint64 {
	out := []uint64{0, 1, 2, 0x000FFFFFFFFFFFFF, 0x0010000000000000, 0x3FB999999999999A, 0x3FF0000000000000, 0x3FF8000000000000, 0x4059000000000000, 0x433FFFFFFFFFFFFF, 0x4340000000000000, 0x4340000000000001, 0x43E0000000000000, 0x444B1AE4D6E2EF50, 0x444B1AE4D6E2EF4F, 0x3EB0C6F7A0B5ED8D, 0x3EA0C6F7A0B5ED8D, 0x7FEFFFFFFFFFFFFF}
	for _, n := range slices.Clone(out) {
		out = append(out, n|1<<63)
	}
	return out
}

// leaves are right values without others that JSON says, of each kind and at
// each kind's ends, and which are read again as they are.
func leaves() []api.Value {
	out := []api.Value{
		null(), truth(0), truth(1), text(""), text("a"), text("a\x00\x1F\x20\x7F"), text("\"\\/\b\f\n\r\t"), text("\u00FC\u20AC\U0001F600"), text("\u0080\u07FF\u0800\uD7FF\uE000\uFFFF\U00010000\U0010FFFF\u2028<&>"), text(strings.Repeat("\u20AC", 5000)),
		great(big(9)), greatBelow(big(9)), great(strings.Repeat("\xFF", 9)), greatBelow(strings.Repeat("\xFF", 9)), great(big(100)), greatBelow(big(100) + "\x05"), great(big(498)), greatBelow(strings.Repeat("\xFF", 498)),
	}
	for _, n := range []uint64{0, 1, 9, 10, 99, 100, 255, 256, 1<<31 - 1, 1 << 31, 1<<32 - 1, 1 << 32, 1<<53 + 1, 1<<63 - 1, 1 << 63, 9999999999999999999, 10000000000000000000, maxUint64 - 1, maxUint64} {
		out = append(out, whole(n), below(n))
	}
	for _, n := range floats() {
		out = append(out, f64(n))
	}
	return out
}

// leafOfEach are leaves, made once.
var leafOfEach = leaves()

// trees are right trees of every kind that JSON says, and of all within one
// another.
func trees() []api.Value {
	out := leaves()
	for _, v := range leaves() {
		out = append(out, list(v), list(v, v, v), of("a", v), pairs(text("b"), null(), text("a"), v), list(list(), v), of("", of("\n", list(v))), within(40, of("a", list(v))))
	}
	inner := []api.Value{list(), pairs(), list(null()), of("a", whole(1)), text(""), pairs(text("b"), list(), text("a"), pairs()), pairs(text(""), null(), text(""), whole(1))}
	for _, v := range inner {
		for _, x := range inner {
			out = append(out, v, list(v, x), of("a", v), pairs(text("z"), v, text("y"), x), list(list(x, v)), pairs(text("a"), v, text("a"), of("c", x)), list(list(v), of("a", x), list(v)))
		}
	}
	return append(out,
		within(api.MaxDepth, null()), within(api.MaxDepth-1, list()), within(api.MaxDepth-1, pairs()), list(within(api.MaxDepth-1, null()), null()), within(api.MaxDepth-1, great(big(9))),
		list(nulls(api.MaxNodes-1)...), list(list(nulls(api.MaxNodes-2)...)),
	)
}

// chance tells numbers that look like chance but are the same in each run.
type chance uint64

func (c *chance) word() uint64 {
	*c ^= *c << 13
	*c ^= *c >> 7
	*c ^= *c << 17
	return uint64(*c) * 0x2545F4914F6CDD1D
}

func (c *chance) below(n int) int {
	return int(c.word() >> 1 % uint64(n))
}

// leaf is one of few bytes.
func (c *chance) leaf() api.Value {
	for {
		if v := leafOfEach[c.below(len(leafOfEach))]; len(v.S) < 30 {
			return v
		}
	}
}

// key is one of few texts, so that some are there twice.
func (c *chance) key() api.Value {
	return text([]string{"", "a", "b", "aa", "ab", "A", "\n", "\u00E4", "\u20AC", "\U0001F600", "\uFFFF"}[c.below(11)])
}

// tree is a right one of few bytes that is no deeper than depth.
func (c *chance) tree(depth int) api.Value {
	var l []api.Value
	switch n := c.below(4); {
	case depth == 0 || n == 3:
		return c.leaf()
	case n == 0:
		for range c.below(5) {
			l = append(l, c.key(), c.tree(depth-1))
		}
		return pairs(l...)
	}
	for range c.below(5) {
		l = append(l, c.tree(depth-1))
	}
	return list(l...)
}

// blanks are none, or some.
func (c *chance) blanks() string {
	var out strings.Builder
	for range max(0, c.below(6)-3) {
		out.WriteByte("\t\n\r "[c.below(4)])
	}
	return out.String()
}

// text is one that says a tree, with blanks anywhere.
func (c *chance) text(depth int) string {
	v := c.tree(depth)
	return c.blanks() + c.spread(v) + c.blanks()
}

func (c *chance) spread(v api.Value) string {
	var parts []string
	switch v.K {
	case api.KList:
		for _, x := range v.L {
			parts = append(parts, c.spread(x)+c.blanks())
		}
		return "[" + c.blanks() + strings.Join(parts, ","+c.blanks()) + "]"
	case api.KMap:
		for place := 0; place < len(v.L); place += 2 {
			parts = append(parts, c.spread(v.L[place])+c.blanks()+":"+c.blanks()+c.spread(v.L[place+1])+c.blanks())
		}
		return "{" + c.blanks() + strings.Join(parts, ","+c.blanks()) + "}"
	}
	return wantLine(v, false)
}

// changed is s with one byte left out, put in or made into another.
func (c *chance) changed(s string) string {
	at := c.below(len(s) + 1)
	b := []string{string([]byte{byte(c.below(256))}), string([]byte{"[]{},:\"\\-0e.ntf \xC3"[c.below(17)]}), ""}[c.below(3)]
	return s[:at] + b + s[min(len(s), at+c.below(2)):]
}

// copied shares no list with v.
func copied(v api.Value) api.Value {
	var l []api.Value
	for _, x := range v.L {
		l = append(l, copied(x))
	}
	v.L = l
	return v
}

// same tells whether two trees are the same.
func same(a, b api.Value) bool {
	if a.K != b.K || a.Neg != b.Neg || a.N != b.N || a.S != b.S || len(a.L) != len(b.L) {
		return false
	}
	for i := range a.L {
		if !same(a.L[i], b.L[i]) {
			return false
		}
	}
	return true
}

// wantDepth is how deep v is.
func wantDepth(v api.Value) int {
	switch v.K {
	case api.KBig:
		return 1
	case api.KList, api.KMap:
		out := 1
		for _, x := range v.L {
			out = max(out, 1+wantDepth(x))
		}
		return out
	}
	return 0
}

// short is a text in few bytes.
func short(s string) string {
	if len(s) > 200 {
		return strconv.QuoteToASCII(s[:100]) + " .. (" + strconv.Itoa(len(s)) + " bytes)"
	}
	return strconv.QuoteToASCII(s)
}

// told is a tree in few words.
func told(v api.Value) string {
	out := "{K " + strconv.Itoa(v.K) + " Neg " + strconv.FormatBool(v.Neg) + " N " + strconv.FormatUint(v.N, 16) + " S " + short(v.S)
	for i, x := range v.L {
		if i == 5 {
			return out + " .. (" + strconv.Itoa(len(v.L)) + " within)}"
		}
		out += " " + told(x)
	}
	return out + "}"
}

func checkEncode(t *testing.T, v api.Value, o api.Option, want string, wantE api.Errno) {
	t.Helper()
	before := copied(v)
	b, e := json.Encode(v, o)
	if string(b) != want || e != wantE {
		t.Fatalf("Encode(%s, %+v): %s, %v, want %s, %v", told(v), o, short(string(b)), e, short(want), wantE)
	}
	if !same(v, before) {
		t.Fatalf("Encode(%s, %+v) changed it", told(before), o)
	}
}

// checkDecode asks Decode for s, which other bytes stand behind in memory.
func checkDecode(t *testing.T, s string, l api.Limits, want api.Value, wantAt int, wantE api.Errno) {
	t.Helper()
	const behind = "]}1\""
	room := []byte(s + behind)
	v, at, e := json.Decode(room[:len(s)], l)
	if !same(v, want) || at != wantAt || e != wantE {
		t.Fatalf("Decode(%s), %+v: %s, %d, %v, want %s, %d, %v", short(s), l, told(v), at, e, told(want), wantAt, wantE)
	}
	if !bytes.Equal(room, []byte(s+behind)) {
		t.Fatalf("Decode(%s) changed the bytes", short(s))
	}
}

// checkTaken asks for a text that is to be told whole.
func checkTaken(t *testing.T, s string, l api.Limits, want api.Value) {
	t.Helper()
	checkDecode(t, s, l, want, len(s), api.OK)
}

// checkRefused asks for a text that is to be refused.
func checkRefused(t *testing.T, s string, l api.Limits, at int, e api.Errno) {
	t.Helper()
	checkDecode(t, s, l, api.Value{}, at, e)
}

// checkAsWanted holds Decode against the document's words.
func checkAsWanted(t *testing.T, s string, l api.Limits) {
	t.Helper()
	v, at, e := wantDecode([]byte(s), l)
	checkDecode(t, s, l, v, at, e)
}
