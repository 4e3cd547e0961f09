package pack_test

import (
	"bytes"
	"slices"
	"strconv"
	"strings"
	"testing"

	"glossator/api"
	"glossator/pack"
)

const (
	maxUint64 = 1<<64 - 1
	lastBelow = 1<<63 - 1 // as N: -2^63
)

// most are the greatest limits.
var most = api.Limits{Depth: api.MaxDepth, Size: api.MaxSize}

func size(n int) api.Limits  { return api.Limits{Depth: api.MaxDepth, Size: n} }
func depth(n int) api.Limits { return api.Limits{Depth: n, Size: api.MaxSize} }

func null() api.Value               { return api.Value{K: api.KNull} }
func whole(n uint64) api.Value      { return api.Value{K: api.KInt, N: n} }
func below(n uint64) api.Value      { return api.Value{K: api.KInt, Neg: true, N: n} }
func raw(s string) api.Value        { return api.Value{K: api.KBytes, S: s} }
func text(s string) api.Value       { return api.Value{K: api.KText, S: s} }
func list(l ...api.Value) api.Value { return api.Value{K: api.KList, L: l} }
func f32(bits uint64) api.Value     { return api.Value{K: api.KF32, N: bits} }
func f64(bits uint64) api.Value     { return api.Value{K: api.KF64, N: bits} }
func ext(n uint64, s string) api.Value {
	return api.Value{K: api.KExt, N: n, S: s}
}

// pairs is a map of a key, its value, and so on.
func pairs(l ...api.Value) api.Value { return api.Value{K: api.KMap, L: l} }

func tag(n uint64, l ...api.Value) api.Value { return api.Value{K: api.KTag, N: n, L: l} }

func truth(n uint64) api.Value { return api.Value{K: api.KBool, N: n} }

// nulls are n values without others.
func nulls(n int) []api.Value { return make([]api.Value, n) }

// within is v within so many lists.
func within(lists int, v api.Value) api.Value {
	for range lists {
		v = list(v)
	}
	return v
}

// big is what a KBig of n bytes has as S.
func big(n int) string { return "\x01" + strings.Repeat("\x00", n-1) }

// bytesOf are bytes from letters of base 16; blanks count for nothing.
func bytesOf(t *testing.T, letters string) []byte {
	t.Helper()
	letters = strings.ReplaceAll(letters, " ", "")
	var out []byte
	for ; letters != ""; letters = letters[2:] {
		n, err := strconv.ParseUint(letters[:2], 16, 8)
		if err != nil {
			t.Fatal(err)
		}
		out = append(out, byte(n))
	}
	return out
}

// leaves are right values without others that MessagePack says, of each kind,
// and at each kind's ends.
func leaves() []api.Value {
	out := []api.Value{
		null(), truth(0), truth(1),
		raw(""), raw("\xFF\x00"), raw("\xC1"), raw(strings.Repeat("\x80", 5000)),
		text(""), text("a\x00"), text("\u00FC\u20AC\U0001F600"), text("\u0800\uD7FF\uE000\U0010FFFF"), text(strings.Repeat("\u20AC", 5000)),
	}
	for _, n := range []uint64{0, 1, 31, 32, 33, 126, 127, 128, 129, 254, 255, 256, 257, 1<<15 - 1, 1 << 15, 1<<15 + 1, 1<<16 - 1, 1 << 16, 1<<31 - 1, 1 << 31, 1<<31 + 1, 1<<32 - 1, 1 << 32, lastBelow - 1, lastBelow} {
		out = append(out, whole(n), below(n))
	}
	for _, n := range []uint64{1 << 63, maxUint64 - 1, maxUint64} {
		out = append(out, whole(n))
	}
	for _, n := range []uint64{0, 1, 0x3F800000, 0x7F7FFFFF, 0x7F800000, 0x7F800001, 0x7FC00000, 0x80000000, 0xFF800000, 0xFFFFFFFF} {
		out = append(out, f32(n))
	}
	for _, n := range []uint64{0, 1, 0x0102030405060708, 0x3FF0000000000000, 0x7FEFFFFFFFFFFFFF, 0x7FF0000000000000, 0x7FF0000000000001, 0x7FF8000000000000, 1 << 63, 0xFFF0000000000000, maxUint64} {
		out = append(out, f64(n))
	}
	for _, n := range []int{0, 1, 2, 3, 4, 5, 7, 8, 9, 12, 15, 16, 17, 31, 32} {
		out = append(out, ext(0, strings.Repeat("\x00", n)), ext(255, strings.Repeat("\xC1", n)))
	}
	return append(out, ext(1, "a"), ext(127, ""), ext(128, "ab"))
}

// leafOfEach are leaves, made once.
var leafOfEach = leaves()

// trees are right trees of every kind that MessagePack says, and of all within
// one another.
func trees() []api.Value {
	out := leaves()
	for _, v := range leaves() {
		out = append(out, list(v), list(v, v, v), pairs(v, v), pairs(null(), v, v, null()), list(list(), v), pairs(list(v), pairs(v, list())), within(40, pairs(v, list(v))))
	}
	inner := []api.Value{list(), pairs(), list(null()), pairs(null(), whole(1)), raw(""), text(""), ext(5, "")}
	for _, v := range inner {
		out = append(out, v, list(v), list(v, null()), list(null(), v), list(v, v), pairs(v, null()), pairs(null(), v), pairs(v, v, v, v))
		for _, x := range inner {
			out = append(out, list(v, x), pairs(v, x), list(list(x, v)), pairs(list(v), pairs(x, list(v))), list(list(v), pairs(x, null()), list(v)))
		}
	}
	return append(out,
		within(api.MaxDepth, null()), within(api.MaxDepth-1, list()), within(api.MaxDepth-1, pairs()), list(within(api.MaxDepth-1, null()), null()),
		list(nulls(api.MaxNodes-1)...), pairs(nulls(api.MaxNodes-2)...), list(list(nulls(api.MaxNodes-2)...)),
	)
}

// chance tells numbers that look like chance but are the same in each run.
type chance uint64

func (c *chance) word() uint64 {
	*c ^= *c << 13
	*c ^= *c >> 7
	*c ^= *c << 17
	return uint64(*c) * 0x2545F4914F6CDD1D
}

func (c *chance) below(n int) int {
	return int(c.word() >> 1 % uint64(n))
}

// leaf is one of few bytes.
func (c *chance) leaf() api.Value {
	for {
		if v := leafOfEach[c.below(len(leafOfEach))]; len(v.S) < 30 {
			return v
		}
	}
}

// tree is a right one of few bytes that is no deeper than depth.
func (c *chance) tree(depth int) api.Value {
	switch c.below(4) {
	case 0:
		if depth > 0 {
			return pairs(c.trees(2*c.below(3), depth-1)...)
		}
	case 1, 2:
		if depth > 0 {
			return list(c.trees(c.below(5), depth-1)...)
		}
	}
	return c.leaf()
}

func (c *chance) trees(n, depth int) []api.Value {
	var out []api.Value
	for range n {
		out = append(out, c.tree(depth))
	}
	return out
}

// copied shares no list with v.
func copied(v api.Value) api.Value {
	var l []api.Value
	for _, x := range v.L {
		l = append(l, copied(x))
	}
	v.L = l
	return v
}

// same tells whether two trees are the same.
func same(a, b api.Value) bool {
	if a.K != b.K || a.Neg != b.Neg || a.N != b.N || a.S != b.S || len(a.L) != len(b.L) {
		return false
	}
	for i := range a.L {
		if !same(a.L[i], b.L[i]) {
			return false
		}
	}
	return true
}

// wantDepth is how deep v is.
func wantDepth(v api.Value) int {
	if v.K != api.KList && v.K != api.KMap {
		return 0
	}
	out := 1
	for _, x := range v.L {
		out = max(out, 1+wantDepth(x))
	}
	return out
}

// told is a tree in few words.
func told(v api.Value) string {
	s := strconv.Quote(v.S)
	if len(s) > 40 {
		s = s[:40] + " .. (" + strconv.Itoa(len(v.S)) + " bytes)"
	}
	out := "{K " + strconv.Itoa(v.K) + " Neg " + strconv.FormatBool(v.Neg) + " N " + strconv.FormatUint(v.N, 16) + " S " + s
	for i, x := range v.L {
		if i == 5 {
			return out + " .. (" + strconv.Itoa(len(v.L)) + " within)}"
		}
		out += " " + told(x)
	}
	return out + "}"
}

func checkEncode(t *testing.T, v api.Value, want []byte, wantE api.Errno) {
	t.Helper()
	before := copied(v)
	b, e := pack.Encode(v)
	if !bytes.Equal(b, want) || e != wantE {
		t.Fatalf("Encode(%s): % .40X (%d bytes), %v, want % .40X (%d bytes), %v", told(v), b, len(b), e, want, len(want), wantE)
	}
	if !same(v, before) {
		t.Fatalf("Encode(%s) changed it", told(before))
	}
}

// checkDecode asks Decode for b, which other bytes stand behind in memory.
func checkDecode(t *testing.T, b []byte, l api.Limits, want api.Value, wantAt int, wantE api.Errno) {
	t.Helper()
	room := append(slices.Clone(b), "\xFF\x00\xFF"...)
	v, at, e := pack.Decode(room[:len(b)], l)
	if !same(v, want) || at != wantAt || e != wantE {
		t.Fatalf("Decode(% .40X), %d bytes, %+v: %s, %d, %v, want %s, %d, %v", b, len(b), l, told(v), at, e, told(want), wantAt, wantE)
	}
	if !bytes.Equal(room[:len(b)], b) || string(room[len(b):]) != "\xFF\x00\xFF" {
		t.Fatalf("Decode(% .40X), %d bytes, changed them", b, len(b))
	}
}

// checkTaken asks for bytes that are to be told whole.
func checkTaken(t *testing.T, b []byte, l api.Limits, want api.Value) {
	t.Helper()
	checkDecode(t, b, l, want, len(b), api.OK)
}

// checkRefused asks for bytes that are to be refused.
func checkRefused(t *testing.T, b []byte, l api.Limits, at int, e api.Errno) {
	t.Helper()
	checkDecode(t, b, l, api.Value{}, at, e)
}

// checkAsWanted holds Decode against the document's words.
func checkAsWanted(t *testing.T, b []byte, l api.Limits) {
	t.Helper()
	v, at, e := wantDecode(b, l)
	checkDecode(t, b, l, v, at, e)
}
