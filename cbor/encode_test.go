package cbor_test

import (
	"slices"
	"strings"
	"testing"

	"glossator/api"
	"glossator/cbor"
)

// TestEncodeEachKind: with lengths ahead, and open.
func TestEncodeEachKind(t *testing.T) {
	for _, x := range []struct {
		v          api.Value
		item, open string
	}{
		{list(whole(1), null()), "82 01 F6", "9F 01 F6 FF"},
		{null(), "F6", "F6"},
		{api.Value{K: api.KUndef}, "F7", "F7"},
		{api.Value{K: api.KBool}, "F4", "F4"},
		{api.Value{K: api.KBool, N: 1}, "F5", "F5"},
		{simple(0), "E0", "E0"},
		{simple(19), "F3", "F3"},
		{simple(32), "F8 20", "F8 20"},
		{simple(255), "F8 FF", "F8 FF"},
		{whole(0), "00", "00"},
		{whole(23), "17", "17"},
		{whole(24), "18 18", "18 18"},
		{whole(255), "18 FF", "18 FF"},
		{whole(256), "19 01 00", "19 01 00"},
		{whole(500), "19 01 F4", "19 01 F4"},
		{whole(65535), "19 FF FF", "19 FF FF"},
		{whole(65536), "1A 00 01 00 00", "1A 00 01 00 00"},
		{whole(1<<32 - 1), "1A FF FF FF FF", "1A FF FF FF FF"},
		{whole(1 << 32), "1B 00 00 00 01 00 00 00 00", "1B 00 00 00 01 00 00 00 00"},
		{whole(maxUint64), "1B FF FF FF FF FF FF FF FF", "1B FF FF FF FF FF FF FF FF"},
		{below(0), "20", "20"},
		{below(23), "37", "37"},
		{below(24), "38 18", "38 18"},
		{below(499), "39 01 F3", "39 01 F3"},
		{below(maxUint64), "3B FF FF FF FF FF FF FF FF", "3B FF FF FF FF FF FF FF FF"},
		{great("\x01\x00\x00\x00\x00\x00\x00\x00\x00"), "C2 49 01 00 00 00 00 00 00 00 00", "C2 5F 49 01 00 00 00 00 00 00 00 00 FF"},
		{api.Value{K: api.KBig, Neg: true, S: "\x01\x00\x00\x00\x00\x00\x00\x00\x02"}, "C3 49 01 00 00 00 00 00 00 00 02", "C3 5F 49 01 00 00 00 00 00 00 00 02 FF"},
		{api.Value{K: api.KF16, N: 0x3C00}, "F9 3C 00", "F9 3C 00"},
		{api.Value{K: api.KF16, N: 1}, "F9 00 01", "F9 00 01"},
		{api.Value{K: api.KF32}, "FA 00 00 00 00", "FA 00 00 00 00"},
		{api.Value{K: api.KF32, N: 0x7FC00001}, "FA 7F C0 00 01", "FA 7F C0 00 01"},
		{api.Value{K: api.KF64, N: 0x0102030405060708}, "FB 01 02 03 04 05 06 07 08", "FB 01 02 03 04 05 06 07 08"},
		{api.Value{K: api.KF64, N: 1 << 63}, "FB 80 00 00 00 00 00 00 00", "FB 80 00 00 00 00 00 00 00"},
		{raw(""), "40", "5F FF"},
		{raw("\x00"), "41 00", "5F 41 00 FF"},
		{raw("\xFF\xFF"), "42 FF FF", "5F 42 FF FF FF"},
		{text(""), "60", "7F FF"},
		{text("a"), "61 61", "7F 61 61 FF"},
		{text("\u20AC"), "63 E2 82 AC", "7F 63 E2 82 AC FF"},
		{list(), "80", "9F FF"},
		{list(list(), list(null())), "82 80 81 F6", "9F 9F FF 9F F6 FF FF"},
		{pairs(), "A0", "BF FF"},
		{pairs(whole(1), null()), "A1 01 F6", "BF 01 F6 FF"},
		{pairs(whole(2), whole(3), whole(1), whole(2)), "A2 02 03 01 02", "BF 02 03 01 02 FF"}, // as they stand
		{pairs(null(), null(), null(), null()), "A2 F6 F6 F6 F6", "BF F6 F6 F6 F6 FF"},
		{tag(0, text("")), "C0 60", "C0 7F FF"},
		{tag(2, raw("")), "C2 40", "C2 5F FF"},
		{tag(3, raw("\x01")), "C3 41 01", "C3 5F 41 01 FF"},
		{tag(23, null()), "D7 F6", "D7 F6"},
		{tag(24, raw("\xF6")), "D8 18 41 F6", "D8 18 5F 41 F6 FF"},
		{tag(55799, list()), "D9 D9 F7 80", "D9 D9 F7 9F FF"},
		{tag(maxUint64, tag(0, null())), "DB FF FF FF FF FF FF FF FF C0 F6", "DB FF FF FF FF FF FF FF FF C0 F6"},
		{list(raw(""), pairs(text("a"), list(raw("b"), great(big(9)))), text("")), "83 40 A1 61 61 82 41 62 C2 49 01 00 00 00 00 00 00 00 00 60", "9F 5F FF BF 7F 61 61 FF 9F 5F 41 62 FF C2 5F 49 01 00 00 00 00 00 00 00 00 FF FF FF 7F FF FF"},
	} {
		checkEncode(t, x.v, false, bytesOf(t, x.item), api.OK)
		checkEncode(t, x.v, true, bytesOf(t, x.open), api.OK)
	}
}

// TestEncodeTrees holds trees of all kinds against the document's words.
func TestEncodeTrees(t *testing.T) {
	all := trees()
	c := chance(111)
	for range 2000 {
		all = append(all, c.tree(5))
	}
	for _, v := range all {
		for _, open := range []bool{false, true} {
			checkEncode(t, v, open, []byte(wantEncode(v, open)), api.OK)
		}
	}
}

// TestEncodeLengths: at which the head of what stands behind it gets longer.
func TestEncodeLengths(t *testing.T) {
	heads := []struct {
		n       int
		letters string // with the major 0
	}{
		{0, "00"}, {1, "01"}, {23, "17"}, {24, "18 18"}, {25, "18 19"}, {255, "18 FF"}, {256, "19 01 00"}, {257, "19 01 01"},
		{32767, "19 7F FF"}, {65534, "19 FF FE"}, {65535, "19 FF FF"}, {65536, "1A 00 01 00 00"}, {1<<20 + 1, "1A 00 10 00 01"},
	}
	for _, x := range heads {
		head := func(major byte) []byte {
			b := bytesOf(t, x.letters)
			b[0] += major << 5
			return b
		}
		s := strings.Repeat("a", x.n)
		for major, v := range map[byte]api.Value{2: raw(s), 3: text(s)} {
			checkEncode(t, v, false, append(head(major), s...), api.OK)
			if x.n > 0 {
				checkEncode(t, v, true, slices.Concat([]byte{major<<5 + 31}, head(major), []byte(s), []byte{0xFF}), api.OK)
			}
		}
		inside := slices.Repeat([]byte{0xF6}, x.n)
		if x.n < api.MaxNodes {
			v := list(nulls(x.n)...)
			checkEncode(t, v, false, append(head(4), inside...), api.OK)
			checkEncode(t, v, true, slices.Concat([]byte{0x9F}, inside, []byte{0xFF}), api.OK)
		}
		if 2*x.n < api.MaxNodes {
			v := pairs(nulls(2 * x.n)...)
			checkEncode(t, v, false, slices.Concat(head(5), inside, inside), api.OK)
			checkEncode(t, v, true, slices.Concat([]byte{0xBF}, inside, inside, []byte{0xFF}), api.OK)
		}
	}
}

// wrongTrees are those of which value.Check errs, by themselves.
func wrongTrees() []api.Value {
	return []api.Value{
		{K: -1}, {K: 15}, {K: api.KNull, N: 1}, {K: api.KNull, L: nulls(1)}, {K: api.KBool, N: 2}, {K: api.KBool, Neg: true}, {K: api.KUndef, S: "a"},
		simple(20), simple(24), simple(31), simple(256), {K: api.KInt, S: "a"}, {K: api.KInt, L: nulls(1)},
		great(""), great(big(8)), great("\x00" + big(9)), great(big(api.MaxBig + 1)), {K: api.KBig, S: big(9), N: 1},
		{K: api.KF16, N: 1 << 16}, {K: api.KF32, N: 1 << 32}, {K: api.KF64, Neg: true}, {K: api.KBytes, N: 1},
		text("\xFF"), text("a\xC3"), text("\xED\xA0\x80"), {K: api.KText, Neg: true}, {K: api.KList, N: 1}, {K: api.KList, S: "a"},
		pairs(null()), pairs(null(), null(), null()), tag(1), tag(1, null(), null()), tag(2, raw(big(9))), tag(3, raw(big(api.MaxBig))),
		{K: api.KTag, S: "a", L: nulls(1)}, ext(256, ""), {K: api.KExt, L: nulls(1)},
	}
}

// TestEncodeRefusesWrongTrees: at the top, and deep within others; ahead of a
// KExt, wherever it stands.
func TestEncodeRefusesWrongTrees(t *testing.T) {
	for _, open := range []bool{false, true} {
		for _, v := range wrongTrees() {
			for _, x := range []api.Value{
				v, list(v), list(null(), v, null()), pairs(null(), v), pairs(v, null()), tag(1, v), within(40, pairs(tag(7, list(v)), null())),
				list(v, ext(1, "")), list(ext(1, ""), v), pairs(within(9, ext(1, "")), v),
			} {
				checkEncode(t, x, open, nil, api.ErrValue)
			}
		}
		for _, v := range []api.Value{within(api.MaxDepth+1, null()), within(api.MaxDepth, great(big(9))), list(nulls(api.MaxNodes)...), within(api.MaxDepth+1, ext(1, "")), list(append(nulls(api.MaxNodes-1), ext(1, ""))...)} {
			checkEncode(t, v, open, nil, api.ErrLong)
		}
	}
}

// TestEncodeRefusesExt: at the top, deep within, ahead of others and behind.
func TestEncodeRefusesExt(t *testing.T) {
	for _, v := range []api.Value{ext(0, ""), ext(1, "abc"), ext(255, "\xFF\xFF\xFF\xFF")} {
		for _, x := range []api.Value{
			v, list(v), list(null(), v), list(v, null()), pairs(null(), v), pairs(v, null()), tag(1, v), tag(2, v), list(list(), list(pairs(whole(1), tag(9, v)))), within(api.MaxDepth, v),
			list(append(nulls(api.MaxNodes-2), v)...),
		} {
			checkEncode(t, x, false, nil, api.ErrSay)
			checkEncode(t, x, true, nil, api.ErrSay)
		}
	}
}

// TestEncodeOptions: but for Open they are of other formats.
func TestEncodeOptions(t *testing.T) {
	v := pairs(text("b"), null(), text("a"), list())
	for _, o := range []api.Option{{Indent: 2}, {Sort: true}, {Indent: -1, Sort: true}} {
		for _, o.Open = range []bool{false, true} {
			if b, e := cbor.Encode(v, o); string(b) != wantEncode(v, o.Open) || e != api.OK {
				t.Errorf("Encode, %+v: % X, %v", o, b, e)
			}
		}
	}
}

// TestEncodeIsApart: each answer is its caller's.
func TestEncodeIsApart(t *testing.T) {
	v := list(raw("abc"), great(big(9)))
	for range 2 {
		b, e := cbor.Encode(v, api.Option{})
		if string(b) != wantEncode(v, false) || e != api.OK {
			t.Fatalf("Encode: % X, %v", b, e)
		}
		b = b[:cap(b)]
		for i := range b {
			b[i] = 0xFF
		}
	}
}
