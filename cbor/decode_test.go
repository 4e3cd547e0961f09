package cbor_test

import (
	"math"
	"slices"
	"strings"
	"testing"

	"glossator/api"
	"glossator/cbor"
)

// TestDecodeEachKind: with the fewest bytes, with more, and open.
func TestDecodeEachKind(t *testing.T) {
	for _, x := range []struct {
		letters string
		want    api.Value
	}{
		{"9F 01 FF", list(whole(1))},
		{"82 01 F6", list(whole(1), null())},
		{"00", whole(0)}, {"17", whole(23)}, {"18 00", whole(0)}, {"18 18", whole(24)}, {"19 00 05", whole(5)}, {"1A 00 00 00 00", whole(0)},
		{"1B 00 00 00 00 00 00 00 01", whole(1)}, {"1B FF FF FF FF FF FF FF FF", whole(maxUint64)},
		{"20", below(0)}, {"37", below(23)}, {"38 00", below(0)}, {"39 01 F3", below(499)}, {"3B FF FF FF FF FF FF FF FF", below(maxUint64)},
		{"E0", simple(0)}, {"F3", simple(19)}, {"F4", api.Value{K: api.KBool}}, {"F5", api.Value{K: api.KBool, N: 1}}, {"F6", null()}, {"F7", api.Value{K: api.KUndef}},
		{"F8 20", simple(32)}, {"F8 FF", simple(255)},
		{"F9 3C 00", api.Value{K: api.KF16, N: 0x3C00}}, {"F9 00 00", api.Value{K: api.KF16}}, {"FA 00 00 00 01", api.Value{K: api.KF32, N: 1}},
		{"FB FF F8 00 00 00 00 00 01", api.Value{K: api.KF64, N: 0xFFF8000000000001}},
		{"40", raw("")}, {"43 01 FF 00", raw("\x01\xFF\x00")}, {"58 01 61", raw("a")}, {"5B 00 00 00 00 00 00 00 01 61", raw("a")},
		{"5F FF", raw("")}, {"5F 40 FF", raw("")}, {"5F 41 61 FF", raw("a")}, {"5F 42 01 02 40 41 FF FF", raw("\x01\x02\xFF")}, {"5F 58 01 61 59 00 01 62 FF", raw("ab")},
		{"60", text("")}, {"63 E2 82 AC", text("\u20AC")}, {"7F FF", text("")}, {"7F 60 60 FF", text("")}, {"7F 61 61 63 E2 82 AC 78 01 62 FF", text("a\u20ACb")},
		{"80", list()}, {"98 00", list()}, {"9B 00 00 00 00 00 00 00 01 F6", list(null())}, {"9F FF", list()}, {"9F 9F FF 80 FF", list(list(), list())},
		{"A0", pairs()}, {"A1 01 02", pairs(whole(1), whole(2))}, {"B9 00 01 01 02", pairs(whole(1), whole(2))}, {"BF FF", pairs()}, {"BF 01 02 01 F6 FF", pairs(whole(1), whole(2), whole(1), null())},
		{"A2 01 02 01 02", pairs(whole(1), whole(2), whole(1), whole(2))}, {"A1 BF FF 9F FF", pairs(pairs(), list())},
		{"C0 60", tag(0, text(""))}, {"D8 00 F6", tag(0, null())}, {"DB FF FF FF FF FF FF FF FF 9F FF", tag(maxUint64, list())}, {"C1 C1 C1 00", tag(1, tag(1, tag(1, whole(0))))},
	} {
		b := bytesOf(t, x.letters)
		checkAsWanted(t, b, most)
		checkTaken(t, b, most, x.want)
		checkTaken(t, b, api.Limits{Depth: wantDepth(x.want), Size: len(b), Once: true}, x.want)
		for cut := range b {
			checkRefused(t, b[:cut], most, cut, api.ErrShort)
			checkRefused(t, b[:cut], api.Limits{Depth: 64, Size: len(b)}, cut, api.ErrShort)
		}
		checkRefused(t, append(b, 0), most, len(b), api.ErrForm)
	}
}

// TestDecodeWrong: the place of the first byte that can't be.
func TestDecodeWrong(t *testing.T) {
	for _, x := range []struct {
		letters string
		at      int
	}{
		{"62 E2 82", 1}, // the code point would not end within the text
		{"FF", 0}, {"1C", 0}, {"1F", 0}, {"3D", 0}, {"3F 00", 0}, {"5E", 0}, {"7C", 0}, {"9E FF", 0}, {"BC", 0}, {"DC", 0}, {"DF 00", 0}, {"FC", 0}, {"FE 00", 0},
		{"F8 00", 1}, {"F8 14", 1}, {"F8 18", 1}, {"F8 1F", 1}, {"82 F8 1F", 2},
		{"81 FF", 1}, {"82 00 FF", 2}, {"A1 FF", 1}, {"A1 00 FF", 2}, {"C0 FF", 1}, {"9F C0 FF FF", 2}, {"9F 81 FF FF", 2}, {"BF 00 FF", 2}, {"BF 00 00 00 FF", 4}, {"BF 81 FF", 2}, {"BF 00 81 FF", 3},
		{"9F FF FF", 2}, {"81 9F FF FF", 3}, {"00 00", 1}, {"F6 1C", 1}, {"80 FF", 1}, {"40 00", 1}, {"5F FF FF", 2}, {"C0 00 00", 2}, {"A1 00 00 00", 3},
		{"5F 00", 1}, {"5F 61 61 FF", 1}, {"5F 5F FF FF", 1}, {"5F 7F", 1}, {"5F 80", 1}, {"5F F6", 1}, {"5F 41 61 61 61 FF", 3}, {"5F C2", 1}, {"5F 5C", 1}, {"5F 5E", 1}, {"5F 1C", 1}, {"5F FE", 1},
		{"7F 41 61 FF", 1}, {"7F 7F FF FF", 1}, {"7F 5F", 1}, {"7F 61 61 41 61 FF", 3}, {"7F 7D", 1}, {"7F 80", 1},
		{"5F 19", 1}, {"7F 58", 1}, {"7F 9B 00", 1}, {"5F F8 18", 1}, {"5F 41 61 F8", 3}, // it can't be, whatever would stand behind it
		{"61 80", 1}, {"61 FF", 1}, {"62 C3 28", 2}, {"62 61 C3", 2}, {"61 C3", 1}, {"63 E2 28 A1", 2}, {"63 E2 82 28", 3}, {"63 ED A0 80", 2}, {"64 F0 80 80 80", 2}, {"64 F4 90 80 80", 2}, {"61 C0", 1}, {"64 F5", 1}, {"62 C0 80", 1},
		{"7F 61 C3 61 A9 FF", 2}, {"7F 62 C3 A9 61 A9 FF", 5}, {"7F 61 61 62 E2 82 61 AC FF", 4}, {"7F 60 61 80 FF", 3}, {"81 7F 63 E2 82 28", 5},
		{"7F 78 02 61 C3 FF", 4}, {"79 00 01 C3", 3},
	} {
		b := bytesOf(t, x.letters)
		checkRefused(t, b, most, x.at, api.ErrForm)
		checkAsWanted(t, b, most)
		// What stands behind counts for nothing, and all ahead is only too short.
		checkRefused(t, append(slices.Clone(b), 0xFF, 0xFF, 0x1C), most, x.at, api.ErrForm)
		checkRefused(t, b[:x.at+1], most, x.at, api.ErrForm)
		for cut := range x.at {
			checkRefused(t, b[:cut], most, cut, api.ErrShort)
		}
	}
}

// TestDecodeLimitsThatCannotBe: whatever the bytes are.
func TestDecodeLimitsThatCannotBe(t *testing.T) {
	depths := map[int]bool{-1: false, math.MinInt: false, 0: true, 1: true, api.MaxDepth: true, api.MaxDepth + 1: false, math.MaxInt: false}
	sizes := map[int]bool{-1: false, math.MinInt: false, 0: true, 1: true, api.MaxSize: true, api.MaxSize + 1: false, math.MaxInt: false}
	for depth, depthRight := range depths {
		for size, sizeRight := range sizes {
			for _, b := range [][]byte{nil, {}, {0}, {0xFF}, {0x1C}, {0x80, 0x80}, ones(api.MaxSize + 5)} {
				l := api.Limits{Depth: depth, Size: size}
				if !depthRight || !sizeRight {
					checkRefused(t, b, l, 0, api.ErrArg)
					l.Once = true
					checkRefused(t, b, l, 0, api.ErrArg)
				} else {
					checkAsWanted(t, b, l)
				}
			}
		}
	}
	checkRefused(t, nil, api.Limits{}, 0, api.ErrShort)
	checkRefused(t, []byte{0}, api.Limits{}, 0, api.ErrLimit)
	checkRefused(t, []byte{0xFF}, api.Limits{}, 0, api.ErrLimit)
	checkTaken(t, []byte{0}, api.Limits{Size: 1}, whole(0))
}

// ones are n items of the number 1.
func ones(n int) []byte { return slices.Repeat([]byte{1}, n) }

// tails are what may stand behind a first byte.
var tails = []string{
	"", "\x00", "\xFF", "\x1F", "\x20", "\x41", "\x61\x61\xFF", "\x00\x00", "\x00\xFF", "\x00\x01\x02", "\xFF\xFF\xFF\xFF\xFF\xFF\xFF\xFF", "\x01\x02\x03\x04\x05\x06\x07\x08", strings.Repeat("\x00", 40), strings.Repeat("\x61", 300),
}

// TestDecodeEachFirstByte: alone, with too few behind it, with enough, and more.
func TestDecodeEachFirstByte(t *testing.T) {
	for first := range 256 {
		for _, tail := range tails {
			for length := range len(tail) + 1 {
				if length > 12 && length != len(tail) && length != 24 {
					continue
				}
				b := append([]byte{byte(first)}, tail[:length]...)
				checkAsWanted(t, b, most)
				for size := range min(len(b)+2, 14) {
					checkAsWanted(t, b, api.Limits{Depth: 1, Size: size})
				}
			}
		}
	}
}

// TestDecodeEachTwoBytes: all there are, at each place that l.Size can have.
func TestDecodeEachTwoBytes(t *testing.T) {
	for n := range 1 << 16 {
		b := []byte{byte(n >> 8), byte(n)}
		for _, size := range []int{0, 1, 2, 3, api.MaxSize} {
			checkAsWanted(t, b, api.Limits{Depth: n % 3, Size: size})
		}
	}
}

// TestDecodeFewBytes: all of up to four, and many of five, from those where something changes.
func TestDecodeFewBytes(t *testing.T) {
	letters := []byte{0x00, 0x18, 0x20, 0x40, 0x41, 0x5F, 0x61, 0x62, 0x7F, 0x81, 0x82, 0x9F, 0xA1, 0xBF, 0xC2, 0xE2, 0xF8, 0xFF}
	var grow func(b []byte)
	grow = func(b []byte) {
		checkAsWanted(t, b, most)
		checkAsWanted(t, b, api.Limits{Depth: len(b) % 3, Size: len(b) - 1 + int(b[0])%2})
		if len(b) == 5 || len(b) == 4 && b[0] != 0x5F && b[0] != 0xC2 {
			return
		}
		for _, x := range letters {
			grow(append(slices.Clone(b), x))
		}
	}
	for _, x := range letters {
		grow([]byte{x})
	}
}

// item are bytes that begin as an item may; most of them are one.
func (c *chance) item(depth int) []byte {
	b := []byte(wantEncode(c.tree(depth), c.below(2) == 0))
	for range c.below(3) {
		i := c.below(len(b))
		switch c.below(4) {
		case 0:
			b[i] = byte(c.word() >> 20)
		case 1:
			b[i] ^= 1 << c.below(8)
		case 2:
			b = slices.Insert(b, i, []byte{0xFF, 0x5F, 0x7F, 0x9F, 0xBF, 0x40, 0x60, 0xC2, 0x18, 0x98, 0x78}[c.below(11)])
		case 3:
			b = slices.Delete(b, i, i+1)
		}
		if len(b) == 0 {
			return []byte{0x00}
		}
	}
	return b
}

// TestDecodeMany: items that something is wrong with, or nothing; at limits of
// all kinds.
func TestDecodeMany(t *testing.T) {
	c := chance(114)
	counts := map[api.Errno]int{}
	for range 100000 {
		b := c.item(4)
		checkAsWanted(t, b, most)
		l := api.Limits{Depth: c.below(6), Size: max(0, len(b)+c.below(8)-5), Once: c.below(2) == 0}
		if c.below(3) == 0 {
			l.Size = c.below(len(b) + 1)
		}
		if c.below(3) == 0 {
			b = b[:c.below(len(b)+1)]
		}
		checkAsWanted(t, b, l)
		_, _, e := wantDecode(b, l)
		counts[e]++
	}
	for _, e := range []api.Errno{api.OK, api.ErrForm, api.ErrLimit, api.ErrShort} {
		if counts[e] < 3000 {
			t.Errorf("only %d of them told %v", counts[e], e)
		}
	}
}

// TestDecodeCutTrees: at every place, by the end of b and by l.Size.
func TestDecodeCutTrees(t *testing.T) {
	c := chance(115)
	for range 3000 {
		v := c.tree(4)
		b := []byte(wantEncode(v, c.below(2) == 0))
		for cut := range b {
			checkRefused(t, b[:cut], most, cut, api.ErrShort)
			checkAsWanted(t, b[:cut], api.Limits{Depth: api.MaxDepth, Size: cut})
			checkAsWanted(t, b, api.Limits{Depth: api.MaxDepth, Size: cut})
		}
		checkTaken(t, b, api.Limits{Depth: api.MaxDepth, Size: len(b)}, v)
	}
}

// TestDecodeIsApart: each answer is its caller's, and shares nothing with b.
func TestDecodeIsApart(t *testing.T) {
	want := list(raw("abc"), pairs(text("a"), list(null())))
	b := []byte(wantEncode(want, false))
	v, _, _ := cbor.Decode(b, most)
	for i := range b {
		b[i] = 0xF7
	}
	if !same(v, want) {
		t.Fatalf("Decode: %s", told(v))
	}
	b = []byte(wantEncode(want, false))
	other, _, _ := cbor.Decode(b, most)
	other.L[1].L[1].L[0].K = api.KUndef
	other.L[0] = null()
	if !same(v, want) {
		t.Fatalf("Decode, changed by another's: %s", told(v))
	}
	if v, _, _ := cbor.Decode(b, most); !same(v, want) {
		t.Fatalf("Decode again: %s", told(v))
	}
}
