package pack_test

import (
	"slices"
	"strings"
	"testing"

	"glossator/api"
	"glossator/pack"
)

// TestEncodeEachKind: at the top, and deep within.
func TestEncodeEachKind(t *testing.T) {
	for _, x := range []struct {
		v    api.Value
		item string
	}{
		{whole(200), "CC C8"},
		{pairs(null(), below(0)), "81 C0 FF"},
		{null(), "C0"},
		{truth(0), "C2"},
		{truth(1), "C3"},
		{f32(0), "CA 00 00 00 00"},
		{f32(0x7FC00001), "CA 7F C0 00 01"},
		{f32(0x3F800000), "CA 3F 80 00 00"},
		{f64(0x0102030405060708), "CB 01 02 03 04 05 06 07 08"},
		{f64(0x3FF0000000000000), "CB 3F F0 00 00 00 00 00 00"}, // as it stands, though it is 1
		{f64(1 << 63), "CB 80 00 00 00 00 00 00 00"},
		{text(""), "A0"},
		{text("a"), "A1 61"},
		{text("\u20AC"), "A3 E2 82 AC"},
		{raw(""), "C4 00"},
		{raw("\x00"), "C4 01 00"},
		{raw("\xFF\xC1"), "C4 02 FF C1"},
		{list(), "90"},
		{list(whole(1), null()), "92 01 C0"},
		{list(list(), list(null())), "92 90 91 C0"},
		{pairs(), "80"},
		{pairs(whole(1), null()), "81 01 C0"},
		{pairs(whole(2), whole(3), whole(1), whole(2)), "82 02 03 01 02"}, // as they stand
		{pairs(null(), null(), null(), null()), "82 C0 C0 C0 C0"},
		{pairs(list(), pairs(pairs(), raw(""))), "81 90 81 80 C4 00"},
		{ext(0, ""), "C7 00 00"},
		{ext(255, ""), "C7 00 FF"},
		{ext(5, "a"), "D4 05 61"},
		{ext(5, "ab"), "D5 05 61 62"},
		{ext(5, "abc"), "C7 03 05 61 62 63"},
		{ext(128, "abcd"), "D6 80 61 62 63 64"},
		{ext(5, "abcde"), "C7 05 05 61 62 63 64 65"},
		{ext(255, "abcdefgh"), "D7 FF 61 62 63 64 65 66 67 68"},
		{ext(1, "abcdefghijkl"), "C7 0C 01 61 62 63 64 65 66 67 68 69 6A 6B 6C"},
		{ext(127, "abcdefghijklmnop"), "D8 7F 61 62 63 64 65 66 67 68 69 6A 6B 6C 6D 6E 6F 70"},
		{ext(0, "abcdefghijklmnopq"), "C7 11 00 61 62 63 64 65 66 67 68 69 6A 6B 6C 6D 6E 6F 70 71"},
		{list(raw(""), pairs(text("a"), list(raw("b"), ext(1, "c"))), text("")), "93 C4 00 81 A1 61 92 C4 01 62 D4 01 63 A0"},
	} {
		item := bytesOf(t, x.item)
		checkEncode(t, x.v, item, api.OK)
		checkEncode(t, within(5, x.v), append([]byte("\x91\x91\x91\x91\x91"), item...), api.OK)
		checkEncode(t, within(40, pairs(x.v, x.v)), slices.Concat([]byte(strings.Repeat("\x91", 40)+"\x81"), item, item), api.OK)
	}
}

// TestEncodeNumbers: at the ends of what so many bytes tell, of both signs.
func TestEncodeNumbers(t *testing.T) {
	for _, x := range []struct {
		v    api.Value
		item string
	}{
		{whole(0), "00"}, {whole(1), "01"}, {whole(32), "20"}, {whole(126), "7E"}, {whole(127), "7F"},
		{whole(128), "CC 80"}, {whole(129), "CC 81"}, {whole(254), "CC FE"}, {whole(255), "CC FF"},
		{whole(256), "CD 01 00"}, {whole(32767), "CD 7F FF"}, {whole(32768), "CD 80 00"}, {whole(65534), "CD FF FE"}, {whole(65535), "CD FF FF"},
		{whole(65536), "CE 00 01 00 00"}, {whole(1<<31 - 1), "CE 7F FF FF FF"}, {whole(1 << 31), "CE 80 00 00 00"}, {whole(1<<32 - 1), "CE FF FF FF FF"},
		{whole(1 << 32), "CF 00 00 00 01 00 00 00 00"}, {whole(1<<63 - 1), "CF 7F FF FF FF FF FF FF FF"}, {whole(1 << 63), "CF 80 00 00 00 00 00 00 00"}, {whole(maxUint64), "CF FF FF FF FF FF FF FF FF"},
		{below(0), "FF"}, {below(1), "FE"}, {below(30), "E1"}, {below(31), "E0"}, // -32
		{below(32), "D0 DF"}, {below(33), "D0 DE"}, {below(126), "D0 81"}, {below(127), "D0 80"}, // -128
		{below(128), "D1 FF 7F"}, {below(255), "D1 FF 00"}, {below(256), "D1 FE FF"}, {below(32766), "D1 80 01"}, {below(32767), "D1 80 00"},
		{below(32768), "D2 FF FF 7F FF"}, {below(65535), "D2 FF FF 00 00"}, {below(65536), "D2 FF FE FF FF"}, {below(1<<31 - 1), "D2 80 00 00 00"},
		{below(1 << 31), "D3 FF FF FF FF 7F FF FF FF"}, {below(1<<32 - 1), "D3 FF FF FF FF 00 00 00 00"}, {below(1 << 32), "D3 FF FF FF FE FF FF FF FF"},
		{below(lastBelow - 1), "D3 80 00 00 00 00 00 00 01"}, {below(lastBelow), "D3 80 00 00 00 00 00 00 00"},
	} {
		checkEncode(t, x.v, bytesOf(t, x.item), api.OK)
		checkEncode(t, list(x.v), bytesOf(t, "91"+x.item), api.OK)
	}
	for _, n := range []uint64{lastBelow + 1, lastBelow + 2, maxUint64 - 1, maxUint64} {
		checkEncode(t, below(n), nil, api.ErrSay)
	}
	for n := range uint64(70000) {
		checkEncode(t, whole(n), []byte(wantEncode(whole(n))), api.OK)
		checkEncode(t, below(n), []byte(wantEncode(below(n))), api.OK)
	}
}

// TestEncodeTrees holds trees of all kinds against the document's words.
func TestEncodeTrees(t *testing.T) {
	all := trees()
	c := chance(131)
	for range 3000 {
		all = append(all, c.tree(5))
	}
	for _, v := range all {
		checkEncode(t, v, []byte(wantEncode(v)), api.OK)
	}
}

// TestEncodeLengths: at which the first bytes change, and one beside.
func TestEncodeLengths(t *testing.T) {
	for _, x := range []struct {
		n                     int
		raw, text, list, pair string
	}{
		{0, "C4 00", "A0", "90", "80"},
		{1, "C4 01", "A1", "91", "81"},
		{14, "C4 0E", "AE", "9E", "8E"},
		{15, "C4 0F", "AF", "9F", "8F"},
		{16, "C4 10", "B0", "DC 00 10", "DE 00 10"},
		{17, "C4 11", "B1", "DC 00 11", "DE 00 11"},
		{30, "C4 1E", "BE", "DC 00 1E", "DE 00 1E"},
		{31, "C4 1F", "BF", "DC 00 1F", "DE 00 1F"},
		{32, "C4 20", "D9 20", "DC 00 20", "DE 00 20"},
		{33, "C4 21", "D9 21", "DC 00 21", "DE 00 21"},
		{254, "C4 FE", "D9 FE", "DC 00 FE", "DE 00 FE"},
		{255, "C4 FF", "D9 FF", "DC 00 FF", "DE 00 FF"},
		{256, "C5 01 00", "DA 01 00", "DC 01 00", "DE 01 00"},
		{257, "C5 01 01", "DA 01 01", "DC 01 01", "DE 01 01"},
		{32767, "C5 7F FF", "DA 7F FF", "DC 7F FF", "DE 7F FF"},
		{32768, "C5 80 00", "DA 80 00", "DC 80 00", ""},
		{65534, "C5 FF FE", "DA FF FE", "DC FF FE", ""},
		{65535, "C5 FF FF", "DA FF FF", "DC FF FF", ""}, // no tree has more values
		{65536, "C6 00 01 00 00", "DB 00 01 00 00", "", ""},
		{65537, "C6 00 01 00 01", "DB 00 01 00 01", "", ""},
		{1<<20 + 1, "C6 00 10 00 01", "DB 00 10 00 01", "", ""},
	} {
		s := strings.Repeat("a", x.n)
		checkEncode(t, raw(s), append(bytesOf(t, x.raw), s...), api.OK)
		checkEncode(t, text(s), append(bytesOf(t, x.text), s...), api.OK)
		inside := slices.Repeat([]byte{0xC0}, x.n)
		if x.list != "" {
			checkEncode(t, list(nulls(x.n)...), append(bytesOf(t, x.list), inside...), api.OK)
		}
		if x.pair != "" {
			checkEncode(t, pairs(nulls(2*x.n)...), slices.Concat(bytesOf(t, x.pair), inside, inside), api.OK)
		}
	}
}

// TestEncodeExtLengths: the type stands behind the length.
func TestEncodeExtLengths(t *testing.T) {
	for _, x := range []struct {
		n    int
		head string
	}{
		{0, "C7 00"}, {1, "D4"}, {2, "D5"}, {3, "C7 03"}, {4, "D6"}, {5, "C7 05"}, {6, "C7 06"}, {7, "C7 07"}, {8, "D7"}, {9, "C7 09"}, {12, "C7 0C"}, {15, "C7 0F"}, {16, "D8"}, {17, "C7 11"},
		{31, "C7 1F"}, {32, "C7 20"}, {33, "C7 21"}, {64, "C7 40"}, {254, "C7 FE"}, {255, "C7 FF"}, {256, "C8 01 00"}, {257, "C8 01 01"},
		{65534, "C8 FF FE"}, {65535, "C8 FF FF"}, {65536, "C9 00 01 00 00"}, {65537, "C9 00 01 00 01"},
	} {
		s := strings.Repeat("\xC1", x.n)
		for _, kind := range []byte{0, 1, 127, 128, 255} {
			v := ext(uint64(kind), s)
			item := append(append(bytesOf(t, x.head), kind), s...)
			checkEncode(t, v, item, api.OK)
			checkEncode(t, list(v, null()), slices.Concat([]byte{0x92}, item, []byte{0xC0}), api.OK)
		}
	}
}

// wrongTrees are those of which value.Check errs, by themselves.
func wrongTrees() []api.Value {
	return []api.Value{
		{K: -1}, {K: 15}, {K: api.KNull, N: 1}, {K: api.KNull, L: nulls(1)}, {K: api.KBool, N: 2}, {K: api.KBool, Neg: true}, {K: api.KUndef, S: "a"},
		{K: api.KSimple, N: 20}, {K: api.KSimple, N: 256}, {K: api.KInt, S: "a"}, {K: api.KInt, L: nulls(1)}, {K: api.KInt, Neg: true, N: maxUint64, S: "a"},
		{K: api.KBig}, {K: api.KBig, S: big(8)}, {K: api.KBig, S: big(api.MaxBig + 1)}, {K: api.KBig, S: big(9), N: 1},
		{K: api.KF16, N: 1 << 16}, f32(1 << 32), {K: api.KF64, Neg: true}, {K: api.KBytes, N: 1},
		text("\xFF"), text("a\xC3"), text("\xED\xA0\x80"), {K: api.KText, Neg: true}, {K: api.KList, N: 1}, {K: api.KList, S: "a"},
		pairs(null()), pairs(null(), null(), null()), tag(1), tag(1, null(), null()), tag(2, raw(big(9))), {K: api.KTag, S: "a", L: nulls(1)},
		ext(256, ""), {K: api.KExt, Neg: true}, {K: api.KExt, L: nulls(1)},
	}
}

// unsaid are right values, each of which MessagePack does not say.
func unsaid() []api.Value {
	return []api.Value{
		{K: api.KUndef}, {K: api.KSimple}, {K: api.KSimple, N: 19}, {K: api.KSimple, N: 32}, {K: api.KSimple, N: 255},
		{K: api.KBig, S: big(9)}, {K: api.KBig, Neg: true, S: big(api.MaxBig)},
		{K: api.KF16}, {K: api.KF16, N: 0x3C00}, {K: api.KF16, N: 0xFFFF},
		tag(0, text("")), tag(1, whole(1)), tag(2, raw("")), tag(3, raw("\x01")), tag(maxUint64, list()), tag(7, tag(8, null())),
		below(lastBelow + 1), below(lastBelow + 2), below(maxUint64),
	}
}

// around are trees of v at the top, deep within others, and within a key.
func around(v api.Value) []api.Value {
	return []api.Value{
		v, list(v), list(null(), v), list(v, null()), pairs(null(), v), pairs(v, null()), pairs(list(v), null()), pairs(null(), null(), pairs(list(list(v)), null()), null()),
		list(list(), list(pairs(whole(1), list(text("a"), v, raw("b"))))), within(40, pairs(list(list(v)), null())),
	}
}

// TestEncodeRefusesWrongTrees: wherever they stand, ahead of and behind what is
// not said.
func TestEncodeRefusesWrongTrees(t *testing.T) {
	for _, v := range wrongTrees() {
		for _, x := range around(v) {
			checkEncode(t, x, nil, api.ErrValue)
		}
	}
	for _, other := range unsaid() {
		for _, v := range wrongTrees() {
			for _, x := range []api.Value{list(v, other), list(other, v), pairs(other, v), pairs(list(v), other), pairs(within(9, other), v), tag(1, v)} {
				checkEncode(t, x, nil, api.ErrValue)
			}
		}
		for _, x := range []api.Value{
			within(api.MaxDepth+1, other), within(api.MaxDepth, list(null(), other)), list(append(nulls(api.MaxNodes-1), other)...), list(append([]api.Value{other}, nulls(api.MaxNodes-1)...)...),
			list(other, within(api.MaxDepth, null())), list(other, within(api.MaxDepth, text("\xFF"))),
		} {
			checkEncode(t, x, nil, api.ErrLong)
		}
	}
	for _, v := range []api.Value{
		within(api.MaxDepth+1, null()), within(api.MaxDepth, list()), within(api.MaxDepth, pairs()), list(nulls(api.MaxNodes)...), pairs(nulls(api.MaxNodes)...),
		within(api.MaxDepth+1, text("\xFF")), list(append(nulls(api.MaxNodes-1), text("\xFF"))...),
	} {
		checkEncode(t, v, nil, api.ErrLong)
	}
	checkEncode(t, within(api.MaxDepth, text("\xFF")), nil, api.ErrValue) // just as deep as may be
}

// TestEncodeRefusesUnsaid: each of them, wherever it stands, and one behind
// another.
func TestEncodeRefusesUnsaid(t *testing.T) {
	for _, v := range unsaid() {
		for _, x := range around(v) {
			checkEncode(t, x, nil, api.ErrSay)
		}
		for _, x := range []api.Value{
			list(append(nulls(api.MaxNodes-5), v)...), list(append([]api.Value{v}, nulls(api.MaxNodes-5)...)...), list(v, below(lastBelow)), list(ext(1, ""), v), pairs(v, v),
		} {
			checkEncode(t, x, nil, api.ErrSay)
		}
		for _, other := range unsaid() {
			checkEncode(t, list(v, other), nil, api.ErrSay)
		}
	}
	for _, v := range []api.Value{{K: api.KUndef}, {K: api.KF16}, {K: api.KSimple}, below(maxUint64)} {
		checkEncode(t, within(api.MaxDepth, v), nil, api.ErrSay)
	}
	// What they hold is said by itself.
	for _, v := range []api.Value{null(), raw(""), raw(big(9)), whole(maxUint64), below(lastBelow), f32(0x3C00), f64(0x3C00), text(""), list(), ext(2, big(9))} {
		checkEncode(t, v, []byte(wantEncode(v)), api.OK)
	}
}

// TestEncodeIsApart: each answer is its caller's.
func TestEncodeIsApart(t *testing.T) {
	v := list(raw("abc"), ext(1, "d"), whole(70000))
	for range 2 {
		b, e := pack.Encode(v)
		if string(b) != wantEncode(v) || e != api.OK {
			t.Fatalf("Encode: % X, %v", b, e)
		}
		b = b[:cap(b)]
		for i := range b {
			b[i] = 0xFF
		}
	}
	// nil and empty lists are the same.
	for _, l := range [][]api.Value{nil, {}} {
		checkEncode(t, api.Value{K: api.KList, L: l}, []byte{0x90}, api.OK)
		checkEncode(t, api.Value{K: api.KMap, L: l}, []byte{0x80}, api.OK)
		checkEncode(t, api.Value{K: api.KExt, L: l}, []byte{0xC7, 0, 0}, api.OK)
		checkEncode(t, api.Value{K: api.KNull, L: l}, []byte{0xC0}, api.OK)
	}
}
