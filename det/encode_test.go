package det_test

import (
	"bytes"
	"strings"
	"testing"

	"glossator/api"
	"glossator/cbor"
	"glossator/det"
)

// TestEncode: by hand; nothing is open, heads are the shortest, keys rise.
func TestEncode(t *testing.T) {
	for _, x := range []struct {
		v    api.Value
		item string
	}{
		{f64(0x3FF0000000000000), "F9 3C 00"},
		{null(), "F6"}, {api.Value{K: api.KBool, N: 1}, "F5"}, {api.Value{K: api.KUndef}, "F7"}, {simple(255), "F8 FF"}, {simple(19), "F3"},
		{whole(5), "05"}, {whole(500), "19 01 F4"}, {below(0), "20"}, {below(maxUint64), "3B FF FF FF FF FF FF FF FF"},
		{tag(2, raw("\x00\x05")), "05"}, {tag(3, raw(zeros(30)+"\x01\xF3")), "39 01 F3"}, {tag(2, raw("")), "00"}, {tag(3, raw("")), "20"},
		{tag(2, raw("\x00"+big(9))), "C2 49 01 00 00 00 00 00 00 00 00"}, {great(big(9)), "C2 49 01 00 00 00 00 00 00 00 00"}, {tag(3, raw(zeros(5)+big(9))), "C3 49 01 00 00 00 00 00 00 00 00"},
		{tag(2, raw(zeros(5)+big(513))), "C2 59 02 01 01" + strings.Repeat("00", 512)},
		{raw("\x00"), "41 00"}, {text("\u20AC"), "63 E2 82 AC"}, {tag(4, raw("\x00")), "C4 41 00"},
		{list(), "80"}, {list(f32(0), list(f64(1<<63))), "82 F9 00 00 81 F9 80 00"},
		{pairs(), "A0"}, {pairs(text("b"), whole(1), text("aa"), whole(2), whole(100), whole(3), whole(10), whole(4), list(whole(100)), whole(5), below(0), whole(6), api.Value{K: api.KBool}, whole(7), list(below(0)), whole(8)),
			"A8 0A 04 18 64 03 20 06 61 62 01 62 61 61 02 81 18 64 05 81 20 08 F4 07"}, // the order of RFC 8949, section 4.2.1
		{pairs(pairs(whole(2), null(), whole(1), null()), pairs(text("b"), null(), text("a"), f64(0x7FF8000000000000))), "A1 A2 01 F6 02 F6 A2 61 61 F9 7E 00 61 62 F6"},
		{tag(2, tag(2, raw("\x05"))), "C2 05"}, {tag(55799, list(tag(2, raw("")))), "D9 D9 F7 81 00"},
	} {
		b, e := det.Encode(x.v)
		if !bytes.Equal(b, bytesOf(t, x.item)) || e != api.OK {
			t.Fatalf("Encode(%s): % X, %v", told(x.v), b, e)
		}
		checkIs(t, b, true)
		checkIs(t, item(x.v), bytes.Equal(item(x.v), b))
		checkAsWanted(t, x.v)
	}
}

// TestEncodeOfOpen: whether an item was open is not told, as its tree is the
// same.
func TestEncodeOfOpen(t *testing.T) {
	c := chance(122)
	all := plainOfEach()
	for range 3000 {
		if v := c.tree(4); isSmall(v) {
			all = append(all, v)
		}
	}
	for _, v := range all {
		open, _ := cbor.Encode(v, api.Option{Open: true})
		fromOpen, _, e := cbor.Decode(open, api.Limits{Depth: api.MaxDepth, Size: api.MaxSize})
		if e != api.OK {
			t.Fatalf("Decode(% .60X): %v", open, e)
		}
		a, eA := det.Encode(v)
		b, eB := det.Encode(fromOpen)
		if !bytes.Equal(a, b) || eA != eB {
			t.Fatalf("Encode(%s): % .60X, %v, but of the open item % .60X, %v", told(v), a, eA, b, eB)
		}
		checkIs(t, open, bytes.Equal(open, a))
	}
}

// isSmall tells whether the items of v are decoded, open ones too.
func isSmall(v api.Value) bool {
	return len(item(v)) < api.MaxSize/2
}
