package json_test

import (
	"math"
	"strings"
	"testing"

	"glossator/api"
	"glossator/json"
)

// options are some of which each is right.
func options() []api.Option {
	var out []api.Option
	for _, indent := range []int{0, 1, 2, 8} {
		out = append(out, api.Option{Indent: indent}, api.Option{Indent: indent, Sort: true}, api.Option{Indent: indent, Open: true})
	}
	return out
}

// TestEncodeEachKind: at the top, and in each shape.
func TestEncodeEachKind(t *testing.T) {
	for _, x := range []struct {
		v api.Value
		s string
	}{
		{of("a", list(whole(1))), `{"a":[1]}`},
		{null(), "null"}, {truth(0), "false"}, {truth(1), "true"},
		{whole(0), "0"}, {whole(1), "1"}, {whole(10), "10"}, {whole(1<<53 + 1), "9007199254740993"}, {whole(1 << 63), "9223372036854775808"}, {whole(maxUint64), "18446744073709551615"},
		{below(0), "-1"}, {below(9), "-10"}, {below(1<<63 - 1), "-9223372036854775808"}, {below(maxUint64), "-18446744073709551616"},
		{great(big(9)), "18446744073709551616"}, {greatBelow(big(9)), "-18446744073709551617"}, {great(strings.Repeat("\xFF", 9)), "4722366482869645213695"}, {great(big(512)), wantLine(great(big(512)), false)}, {greatBelow(strings.Repeat("\xFF", 512)), wantLine(greatBelow(strings.Repeat("\xFF", 512)), false)},
		{f64(0), "0.0"}, {f64(1 << 63), "-0.0"}, {f64(0x3FF0000000000000), "1.0"}, {f64(0xBFF8000000000000), "-1.5"}, {f64(0x3FB999999999999A), "0.1"}, {f64(1), "5e-324"}, {f64(0x7FEFFFFFFFFFFFFF), "1.7976931348623157e308"}, {f64(0xFFEFFFFFFFFFFFFF), "-1.7976931348623157e308"}, {f64(0x4340000000000000), "9007199254740992.0"}, {f64(0x444B1AE4D6E2EF50), "1e21"}, {f64(0x444B1AE4D6E2EF4F), "999999999999999900000.0"}, {f64(0x3EB0C6F7A0B5ED8D), "0.000001"}, {f64(0x3E7AD7F29ABCAF48), "1e-7"}, {f64(0x000FFFFFFFFFFFFF), "2.225073858507201e-308"},
		{text(""), `""`}, {text("a"), `"a"`}, {text(`"\/`), `"\"\\/"`}, {text("\b\f\n\r\t"), `"\b\f\n\r\t"`}, {text("\x00\x01\x0B\x1F\x20\x7F"), "\"\\u0000\\u0001\\u000b\\u001f \x7F\""}, {text("\u00FC\u20AC\U0001F600"), "\"\u00FC\u20AC\U0001F600\""}, {text("<&>'\u2028\uFEFF"), "\"<&>'\u2028\uFEFF\""}, {text("null"), `"null"`}, {text("[1]"), `"[1]"`},
		{list(), "[]"}, {pairs(), "{}"}, {list(list(), pairs(), list(null())), "[[],{},[null]]"}, {list(whole(1), below(1), truth(1), text("x")), `[1,-2,true,"x"]`},
		{of("", pairs()), `{"":{}}`}, {of("\n\"", list()), `{"\n\"":[]}`}, {pairs(text("b"), whole(1), text("a"), whole(2), text("b"), whole(3)), `{"b":1,"a":2,"b":3}`}, // as they stand
		{of("a", of("b", of("c", list(of("d", null()))))), `{"a":{"b":{"c":[{"d":null}]}}}`},
	} {
		for _, y := range shapes() {
			checkEncode(t, y.around(x.v), api.Option{}, y.ahead+x.s+y.behind, api.OK)
			checkEncode(t, y.around(x.v), api.Option{Open: true}, y.ahead+x.s+y.behind, api.OK) // that is CBOR's
		}
	}
}

// TestEncodeTrees holds trees of all kinds against the document's words.
func TestEncodeTrees(t *testing.T) {
	all := trees()
	c := chance(156)
	for range 2000 {
		all = append(all, c.tree(5))
	}
	for _, v := range all {
		for _, o := range options() {
			checkEncode(t, v, o, string(wantEncode(v, o)), api.OK)
		}
	}
}

// unsaid are right values that JSON does not say.
func unsaid() []api.Value {
	out := []api.Value{
		{K: api.KUndef}, {K: api.KSimple}, {K: api.KSimple, N: 19}, {K: api.KSimple, N: 255},
		{K: api.KF16}, {K: api.KF16, N: 0x3C00}, {K: api.KF16, N: 0x7C00}, {K: api.KF16, N: 0x7E00}, {K: api.KF32}, {K: api.KF32, N: 0x3F800000}, {K: api.KF32, N: 0x7F800000}, {K: api.KF32, N: 0x7FC00000}, {K: api.KF32, N: 0xFFFFFFFF},
		f64(0x7FF0000000000000), f64(0xFFF0000000000000), f64(0x7FF0000000000001), f64(0x7FF8000000000000), f64(0xFFF8000000000000), f64(0x7FFFFFFFFFFFFFFF), f64(maxUint64),
		raw(""), raw("a"), raw("\xFF"), tag(0, text("a")), tag(1, whole(1)), tag(2, raw("")), tag(maxUint64, list()), tag(7, tag(8, null())), ext(0, ""), ext(255, "abcd"),
	}
	for _, key := range []api.Value{null(), truth(1), whole(0), below(0), great(big(9)), f64(0x3FF0000000000000), f64(0x7FF8000000000000), raw("a"), list(), list(text("a")), pairs(), of("a", null()), {K: api.KUndef}, {K: api.KF16}, tag(1, text("a")), ext(1, "")} {
		out = append(out, pairs(key, null()), pairs(text("a"), null(), key, null()), pairs(key, null(), text("a"), null()), pairs(key, key))
	}
	return out
}

// wrongTrees are those of which value.Check errs, by themselves.
func wrongTrees() []api.Value {
	return []api.Value{
		{K: -1}, {K: 15}, {K: api.KNull, N: 1}, {K: api.KNull, L: nulls(1)}, {K: api.KBool, N: 2}, {K: api.KBool, N: maxUint64}, {K: api.KBool, Neg: true}, {K: api.KUndef, S: "a"},
		{K: api.KSimple, N: 20}, {K: api.KSimple, N: 256}, {K: api.KInt, S: "a"}, {K: api.KInt, L: nulls(1)}, {K: api.KInt, Neg: true, N: maxUint64, S: "a"},
		{K: api.KBig}, great(big(8)), great(big(api.MaxBig + 1)), great("\x00" + big(9)), {K: api.KBig, S: big(9), N: 1},
		{K: api.KF16, N: 1 << 16}, {K: api.KF32, N: 1 << 32}, {K: api.KF64, Neg: true}, {K: api.KF64, S: "1"}, {K: api.KBytes, N: 1},
		text("\xFF"), text("a\xC3"), text("\xED\xA0\x80"), {K: api.KText, Neg: true}, {K: api.KText, N: 1}, {K: api.KText, L: nulls(1)}, {K: api.KList, N: 1}, {K: api.KList, S: "a"}, {K: api.KMap, Neg: true},
		pairs(text("a")), pairs(text("a"), null(), text("b")), of("\xFF", null()), pairs(null()), tag(1), tag(1, null(), null()), tag(2, raw(big(9))), ext(256, ""),
	}
}

// longTrees are deeper than may be, or have more values.
func longTrees() []api.Value {
	return []api.Value{
		within(api.MaxDepth+1, null()), within(api.MaxDepth, list()), within(api.MaxDepth, pairs()), within(api.MaxDepth, great(big(9))), within(api.MaxDepth, of("a", null())),
		list(nulls(api.MaxNodes)...), pairs(nulls(api.MaxNodes)...), within(api.MaxDepth+1, text("\xFF")), list(append(nulls(api.MaxNodes-1), text("\xFF"))...),
	}
}

// around are trees of v at the top, ahead of and behind others, and deep within.
func around(v api.Value) []api.Value {
	return []api.Value{
		v, list(v), list(null(), v), list(v, null()), of("a", v), pairs(text("b"), null(), text("a"), v, text("b"), list()), list(list(), list(of("k", list(text("a"), v, truth(0))))), within(40, of("a", list(list(v)))),
	}
}

// checkRefusedByAll asks for a value that is refused whatever is asked for.
func checkRefusedByAll(t *testing.T, v api.Value, e api.Errno) {
	t.Helper()
	for _, o := range []api.Option{{}, {Indent: 3}, {Sort: true}, {Open: true, Indent: 8, Sort: true}} {
		checkEncode(t, v, o, "", e)
	}
}

// TestEncodeRefusesUnsaid: each of them, wherever it stands.
func TestEncodeRefusesUnsaid(t *testing.T) {
	for _, v := range unsaid() {
		for _, x := range around(v) {
			checkRefusedByAll(t, x, api.ErrSay)
		}
	}
	for _, v := range []api.Value{{K: api.KUndef}, {K: api.KF16}, raw("a"), f64(0x7FF0000000000000)} {
		checkRefusedByAll(t, within(api.MaxDepth, v), api.ErrSay)
		checkRefusedByAll(t, list(append(nulls(api.MaxNodes-2), v)...), api.ErrSay)
		checkRefusedByAll(t, list(append([]api.Value{v}, nulls(api.MaxNodes-2)...)...), api.ErrSay)
	}
	// Beside them stand such as it says.
	for _, bits := range []uint64{0x7FEFFFFFFFFFFFFF, 0xFFEFFFFFFFFFFFFF, 0, 1, 1 << 63} {
		checkEncode(t, f64(bits), api.Option{}, wantFloat(bits), api.OK)
	}
}

// TestEncodeRefusesWrongTrees: wherever they stand, and ahead of all else.
func TestEncodeRefusesWrongTrees(t *testing.T) {
	for _, v := range wrongTrees() {
		for _, x := range around(v) {
			checkRefusedByAll(t, x, api.ErrValue)
		}
		for _, other := range []api.Value{{K: api.KUndef}, raw("a"), pairs(null(), null()), f64(0x7FF8000000000000)} {
			for _, x := range []api.Value{list(v, other), list(other, v), pairs(other, v), pairs(v, other), of("a", list(other, within(9, v))), tag(1, v)} {
				checkRefusedByAll(t, x, api.ErrValue)
			}
		}
	}
	for _, v := range longTrees() {
		checkRefusedByAll(t, v, api.ErrLong)
		checkRefusedByAll(t, list(raw("a"), v), api.ErrLong)
		checkRefusedByAll(t, pairs(v, null()), api.ErrLong)
	}
	checkRefusedByAll(t, within(api.MaxDepth, text("\xFF")), api.ErrValue) // just as deep as may be
	checkEncode(t, within(api.MaxDepth, text("")), api.Option{}, strings.Repeat("[", 64)+`""`+strings.Repeat("]", 64), api.OK)
	checkEncode(t, list(nulls(api.MaxNodes-1)...), api.Option{}, "["+strings.Repeat("null,", api.MaxNodes-2)+"null]", api.OK)
}

// TestEncodeIndentThatCannotBe: behind what value.Check says, ahead of what JSON
// does not.
func TestEncodeIndentThatCannotBe(t *testing.T) {
	for _, indent := range []int{-1, -8, math.MinInt, 9, 10, math.MaxInt} {
		for _, o := range []api.Option{{Indent: indent}, {Indent: indent, Sort: true, Open: true}} {
			for _, v := range trees()[:40] {
				checkEncode(t, v, o, "", api.ErrArg)
			}
			for _, v := range unsaid() {
				checkEncode(t, v, o, "", api.ErrArg)
			}
			for _, v := range wrongTrees() {
				checkEncode(t, v, o, "", api.ErrValue)
				checkEncode(t, list(raw(""), v), o, "", api.ErrValue)
			}
			for _, v := range longTrees() {
				checkEncode(t, v, o, "", api.ErrLong)
			}
		}
	}
}

// TestEncodeIsApart: each answer is its caller's.
func TestEncodeIsApart(t *testing.T) {
	v := list(text("abc"), pairs(text("b"), whole(1), text("a"), whole(2)), whole(70000))
	for _, o := range options() {
		for range 2 {
			b, e := json.Encode(v, o)
			if string(b) != string(wantEncode(v, o)) || e != api.OK {
				t.Fatalf("Encode, %+v: %s, %v", o, b, e)
			}
			b = b[:cap(b)]
			for i := range b {
				b[i] = 0xFF
			}
		}
	}
	// nil and empty lists are the same.
	for _, l := range [][]api.Value{nil, {}} {
		checkEncode(t, api.Value{K: api.KList, L: l}, api.Option{Indent: 4}, "[]", api.OK)
		checkEncode(t, api.Value{K: api.KMap, L: l}, api.Option{Sort: true}, "{}", api.OK)
		checkEncode(t, api.Value{K: api.KNull, L: l}, api.Option{}, "null", api.OK)
	}
}
