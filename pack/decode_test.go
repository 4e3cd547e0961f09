package pack_test

import (
	"math"
	"slices"
	"strings"
	"testing"

	"glossator/api"
	"glossator/pack"
)

// TestDecodeEachKind: with the fewest bytes, and with more.
func TestDecodeEachKind(t *testing.T) {
	for _, x := range []struct {
		letters string
		want    api.Value
	}{
		{"CC C8", whole(200)}, {"81 C0 FF", pairs(null(), below(0))},
		{"C0", null()}, {"C2", truth(0)}, {"C3", truth(1)},
		{"00", whole(0)}, {"01", whole(1)}, {"7F", whole(127)}, {"FF", below(0)}, {"FE", below(1)}, {"E1", below(30)}, {"E0", below(31)},
		{"CC 80", whole(128)}, {"CC FF", whole(255)}, {"CD 01 00", whole(256)}, {"CD FF FF", whole(65535)}, {"CE 00 01 00 00", whole(65536)}, {"CE FF FF FF FF", whole(1<<32 - 1)},
		{"CF 00 00 00 01 00 00 00 00", whole(1 << 32)}, {"CF 80 00 00 00 00 00 00 00", whole(1 << 63)}, {"CF FF FF FF FF FF FF FF FF", whole(maxUint64)}, {"CF 01 02 03 04 05 06 07 08", whole(0x0102030405060708)},
		{"D0 DF", below(32)}, {"D0 80", below(127)}, {"D1 FF 7F", below(128)}, {"D1 80 00", below(32767)}, {"D2 FF FF 7F FF", below(32768)}, {"D2 80 00 00 00", below(1<<31 - 1)},
		{"D3 FF FF FF FF 7F FF FF FF", below(1 << 31)}, {"D3 80 00 00 00 00 00 00 01", below(lastBelow - 1)}, {"D3 80 00 00 00 00 00 00 00", below(lastBelow)},
		{"CA 00 00 00 00", f32(0)}, {"CA 7F C0 00 01", f32(0x7FC00001)}, {"CA FF FF FF FF", f32(0xFFFFFFFF)},
		{"CB 01 02 03 04 05 06 07 08", f64(0x0102030405060708)}, {"CB FF F8 00 00 00 00 00 01", f64(0xFFF8000000000001)},
		{"A0", text("")}, {"A1 61", text("a")}, {"A1 00", text("\x00")}, {"A3 E2 82 AC", text("\u20AC")}, {"A4 F4 8F BF BF", text("\U0010FFFF")},
		{"C4 00", raw("")}, {"C4 01 C1", raw("\xC1")}, {"C4 03 01 FF 00", raw("\x01\xFF\x00")},
		{"90", list()}, {"92 01 C0", list(whole(1), null())}, {"91 91 90", within(2, list())}, {"80", pairs()}, {"81 01 02", pairs(whole(1), whole(2))}, {"82 01 02 01 C0", pairs(whole(1), whole(2), whole(1), null())},
		{"81 80 90", pairs(pairs(), list())}, {"81 91 81 C0 C0 81 90 80", pairs(list(pairs(null(), null())), pairs(list(), pairs()))},
		{"D4 00 C1", ext(0, "\xC1")}, {"D5 05 61 62", ext(5, "ab")}, {"D6 FF 61 62 63 64", ext(255, "abcd")}, {"D7 7F 61 62 63 64 65 66 67 68", ext(127, "abcdefgh")},
		{"D8 80 61 62 63 64 65 66 67 68 69 6A 6B 6C 6D 6E 6F 70", ext(128, "abcdefghijklmnop")}, {"C7 00 FF", ext(255, "")}, {"C7 03 01 61 62 63", ext(1, "abc")},
		{"93 C4 00 81 A1 61 92 C4 01 62 D4 01 63 A0", list(raw(""), pairs(text("a"), list(raw("b"), ext(1, "c"))), text(""))},
	} {
		checkWhole(t, x.letters, x.want)
	}
}

// TestDecodeMoreBytesThanNeeded: numbers and lengths.
func TestDecodeMoreBytesThanNeeded(t *testing.T) {
	for _, x := range []struct {
		letters string
		want    api.Value
	}{
		{"CC 00", whole(0)}, {"CC 7F", whole(127)}, {"CD 00 00", whole(0)}, {"CD 00 80", whole(128)}, {"CD 00 FF", whole(255)}, {"CE 00 00 00 00", whole(0)}, {"CE 00 00 00 05", whole(5)}, {"CE 00 00 FF FF", whole(65535)},
		{"CF 00 00 00 00 00 00 00 00", whole(0)}, {"CF 00 00 00 00 00 00 00 01", whole(1)}, {"CF 00 00 00 00 FF FF FF FF", whole(1<<32 - 1)},
		{"D0 00", whole(0)}, {"D0 05", whole(5)}, {"D0 7F", whole(127)}, {"D0 E0", below(31)}, {"D0 FF", below(0)},
		{"D1 00 00", whole(0)}, {"D1 00 80", whole(128)}, {"D1 00 FF", whole(255)}, {"D1 01 00", whole(256)}, {"D1 7F FF", whole(32767)}, {"D1 FF FF", below(0)}, {"D1 FF 80", below(127)}, {"D1 FF 00", below(255)},
		{"D2 00 00 00 00", whole(0)}, {"D2 00 00 80 00", whole(32768)}, {"D2 7F FF FF FF", whole(1<<31 - 1)}, {"D2 FF FF FF FF", below(0)}, {"D2 FF FF 80 00", below(32767)}, {"D2 FF FF 00 00", below(65535)},
		{"D3 00 00 00 00 00 00 00 00", whole(0)}, {"D3 00 00 00 00 00 00 00 C8", whole(200)}, {"D3 00 00 00 00 80 00 00 00", whole(1 << 31)}, {"D3 7F FF FF FF FF FF FF FF", whole(lastBelow)}, {"D3 00 00 00 01 00 00 00 00", whole(1 << 32)},
		{"D3 FF FF FF FF FF FF FF FF", below(0)}, {"D3 FF FF FF FF FF FF FF 80", below(127)}, {"D3 FF FF FF FF 80 00 00 00", below(1<<31 - 1)}, {"D3 FF FF FF FF 00 00 00 00", below(1<<32 - 1)}, {"D3 80 00 00 00 FF FF FF FF", below(lastBelow - (1<<32 - 1))},
		{"D9 00", text("")}, {"D9 01 61", text("a")}, {"DA 00 00", text("")}, {"DA 00 03 E2 82 AC", text("\u20AC")}, {"DB 00 00 00 00", text("")}, {"DB 00 00 00 01 61", text("a")},
		{"C5 00 00", raw("")}, {"C5 00 01 61", raw("a")}, {"C6 00 00 00 00", raw("")}, {"C6 00 00 00 02 61 C1", raw("a\xC1")},
		{"DC 00 00", list()}, {"DC 00 01 C0", list(null())}, {"DD 00 00 00 00", list()}, {"DD 00 00 00 02 C0 01", list(null(), whole(1))}, {"DD 00 00 00 01 DC 00 01 90", within(2, list())},
		{"DE 00 00", pairs()}, {"DE 00 01 C0 01", pairs(null(), whole(1))}, {"DF 00 00 00 00", pairs()}, {"DF 00 00 00 01 C0 01", pairs(null(), whole(1))}, {"DF 00 00 00 02 01 02 03 04", pairs(whole(1), whole(2), whole(3), whole(4))},
		{"C7 01 05 61", ext(5, "a")}, {"C7 02 05 61 62", ext(5, "ab")}, {"C7 04 FF 61 62 63 64", ext(255, "abcd")}, {"C7 08 05 61 62 63 64 65 66 67 68", ext(5, "abcdefgh")}, {"C7 10 05 61 62 63 64 65 66 67 68 69 6A 6B 6C 6D 6E 6F 70", ext(5, "abcdefghijklmnop")},
		{"C8 00 00 05", ext(5, "")}, {"C8 00 01 05 61", ext(5, "a")}, {"C9 00 00 00 00 80", ext(128, "")}, {"C9 00 00 00 03 05 61 62 63", ext(5, "abc")},
	} {
		checkWhole(t, x.letters, x.want)
	}
}

// checkWhole asks for all of an item, for it within others, and for it cut and
// with a byte behind.
func checkWhole(t *testing.T, letters string, want api.Value) {
	t.Helper()
	b := bytesOf(t, letters)
	checkAsWanted(t, b, most)
	checkTaken(t, b, most, want)
	checkTaken(t, b, api.Limits{Depth: wantDepth(want), Size: len(b), Once: true}, want)
	checkTaken(t, slices.Concat([]byte("\x93\xC0"), b, b), most, list(null(), want, want))
	checkTaken(t, slices.Concat([]byte{0x82}, b, b, b, b), most, pairs(want, want, want, want))
	for cut := range b {
		checkRefused(t, b[:cut], most, cut, api.ErrShort)
		checkRefused(t, b[:cut], size(len(b)), cut, api.ErrShort)
		checkRefused(t, append([]byte{0x91}, b[:cut]...), most, 1+cut, api.ErrShort)
	}
	for _, more := range []byte{0x00, 0xC1, 0xFF} {
		checkRefused(t, append(slices.Clone(b), more), most, len(b), api.ErrForm)
		checkRefused(t, append(slices.Clone(b), more, more), size(len(b)+1), len(b), api.ErrForm)
		checkRefused(t, append(slices.Clone(b), more), size(len(b)), len(b), api.ErrLimit)
	}
}

// TestDecodeLong: items with all that their longer lengths can tell.
func TestDecodeLong(t *testing.T) {
	for _, n := range []int{15, 16, 31, 32, 255, 256, 257, 32767, 32768, 65535, 65536, 70000} {
		s := strings.Repeat("a", n)
		for _, head := range []struct{ raw, text, ext string }{{"\xC4", "\xD9", "\xC7"}, {"\xC5", "\xDA", "\xC8"}, {"\xC6", "\xDB", "\xC9"}} {
			width := 1 << (head.raw[0] - 0xC4)
			if n >= 1<<(8*width) {
				continue
			}
			length := inBytes(uint64(n), width)
			checkTaken(t, []byte(head.raw+length+s), most, raw(s))
			checkTaken(t, []byte(head.text+length+s), most, text(s))
			checkTaken(t, []byte(head.ext+length+"\x80"+s), most, ext(128, s))
		}
		if n < api.MaxNodes {
			inside := strings.Repeat("\xC0", n)
			if n < 1<<16 {
				checkTaken(t, []byte("\xDC"+inBytes(uint64(n), 2)+inside), most, list(nulls(n)...))
			}
			checkTaken(t, []byte("\xDD"+inBytes(uint64(n), 4)+inside), most, list(nulls(n)...))
		}
		if 2*n < api.MaxNodes {
			inside := strings.Repeat("\xC0", 2*n)
			checkTaken(t, []byte("\xDE"+inBytes(uint64(n), 2)+inside), most, pairs(nulls(2*n)...))
			checkTaken(t, []byte("\xDF"+inBytes(uint64(n), 4)+inside), most, pairs(nulls(2*n)...))
		}
	}
	for n := range 32 {
		s := strings.Repeat("b", n)
		checkTaken(t, []byte(one(0xA0+byte(n))+s), most, text(s))
		if n < 16 {
			checkTaken(t, []byte(one(0x90+byte(n))+strings.Repeat("\xC0", n)), most, list(nulls(n)...))
			checkTaken(t, []byte(one(0x80+byte(n))+strings.Repeat("\xC0", 2*n)), most, pairs(nulls(2*n)...))
		}
	}
}

// TestDecodeWrong: the place of the first byte that can't be.
func TestDecodeWrong(t *testing.T) {
	for _, x := range []struct {
		letters string
		at      int
	}{
		{"C1", 0}, {"C1 00", 0}, {"91 C1", 1}, {"92 00 C1", 2}, {"81 C1", 1}, {"81 00 C1", 2}, {"81 C1 C0", 1}, {"DC 00 01 C1", 3}, {"DF 00 00 00 01 C1", 5}, {"92 91 C1", 2}, {"93 C4 01 C1 C1", 4}, {"92 D4 C1 C1 C1", 4}, {"92 CC C1 C1", 3}, // what stands for a number, a type or bytes may be C1
		{"00 00", 1}, {"C0 C1", 1}, {"90 90", 1}, {"80 80", 1}, {"A0 00", 1}, {"C4 00 00", 2}, {"91 C0 C0", 2}, {"81 C0 C0 C0", 3}, {"D4 00 00 00", 3}, {"C7 00 00 00", 3}, {"CC 00 00", 2}, {"CB 00 00 00 00 00 00 00 00 FF", 9},
		{"A1 80", 1}, {"A1 FF", 1}, {"A2 E2 82", 1}, {"A2 C3 28", 2}, {"A2 61 C3", 2}, {"A1 C3", 1}, {"A3 E2 28 A1", 2}, {"A3 E2 82 28", 3}, {"A3 ED A0 80", 2}, {"A4 F0 80 80 80", 2}, {"A4 F4 90 80 80", 2}, {"A1 C0", 1}, {"A4 F5", 1}, {"A2 C0 80", 1},
		{"D9 01 80", 2}, {"D9 02 61 C3", 3}, {"DA 00 01 C3", 3}, {"DA 00 02 C3 28", 4}, {"DB 00 00 00 01 FF", 5}, {"DB 00 00 00 03 E2 82 28", 7}, {"91 A1 80", 2}, {"81 A1 80 C0", 2}, {"81 C0 A2 61 FF", 4}, {"92 A1 61 A1 FF", 4},
	} {
		b := bytesOf(t, x.letters)
		checkRefused(t, b, most, x.at, api.ErrForm)
		checkAsWanted(t, b, most)
		// What stands behind counts for nothing, and all ahead is only too short.
		checkRefused(t, append(slices.Clone(b), 0xFF, 0xFF, 0xC1), most, x.at, api.ErrForm)
		checkRefused(t, b[:x.at+1], most, x.at, api.ErrForm)
		for cut := range x.at {
			checkRefused(t, b[:cut], most, cut, api.ErrShort)
		}
	}
}

// TestDecodeLimitsThatCannotBe: whatever the bytes are.
func TestDecodeLimitsThatCannotBe(t *testing.T) {
	depths := map[int]bool{-1: false, math.MinInt: false, 0: true, 1: true, api.MaxDepth: true, api.MaxDepth + 1: false, math.MaxInt: false}
	sizes := map[int]bool{-1: false, math.MinInt: false, 0: true, 1: true, api.MaxSize: true, api.MaxSize + 1: false, math.MaxInt: false}
	for depth, depthRight := range depths {
		for size, sizeRight := range sizes {
			for _, b := range [][]byte{nil, {}, {0}, {0x90}, {0xC1}, {0x80, 0x80}, slices.Repeat([]byte{1}, api.MaxSize+5)} {
				l := api.Limits{Depth: depth, Size: size}
				if !depthRight || !sizeRight {
					checkRefused(t, b, l, 0, api.ErrArg)
					l.Once = true
					checkRefused(t, b, l, 0, api.ErrArg)
				} else {
					checkAsWanted(t, b, l)
				}
			}
		}
	}
	checkRefused(t, nil, api.Limits{}, 0, api.ErrShort)
	checkRefused(t, nil, most, 0, api.ErrShort)
	checkRefused(t, []byte{0}, api.Limits{}, 0, api.ErrLimit)
	checkRefused(t, []byte{0xC1}, api.Limits{}, 0, api.ErrLimit)
	checkTaken(t, []byte{0}, api.Limits{Size: 1}, whole(0))
	checkRefused(t, []byte{0x90}, api.Limits{Size: 1}, 0, api.ErrLimit)
	checkTaken(t, []byte{0x90}, api.Limits{Depth: 1, Size: 1}, list())
}

// tails are what may stand behind a first byte.
var tails = []string{
	"", "\x00", "\xFF", "\xC1", "\x01\xC1", "\x01\x61", "\x00\x00", "\x00\xFF", "\x00\x01\x02", "\x00\x00\x00\x01\x02\x03", "\xFF\xFF\xFF\xFF\xFF\xFF\xFF\xFF", "\x80\x00\x00\x00\x00\x00\x00\x00", "\x01\x02\x03\x04\x05\x06\x07\x08\x09", strings.Repeat("\x00", 40), strings.Repeat("\x61", 300),
}

// TestDecodeEachFirstByte: alone, with too few behind it, with enough, and more;
// at the top and within.
func TestDecodeEachFirstByte(t *testing.T) {
	for first := range 256 {
		for _, tail := range tails {
			for length := range len(tail) + 1 {
				if length > 20 && length != len(tail) && length != 32 {
					continue
				}
				b := append([]byte{byte(first)}, tail[:length]...)
				checkAsWanted(t, b, most)
				checkAsWanted(t, append([]byte{0x91}, b...), most)
				checkAsWanted(t, append([]byte{0x81}, b...), most)
				for size := range min(len(b)+2, 24) {
					checkAsWanted(t, b, api.Limits{Depth: 1, Size: size})
				}
			}
		}
	}
}

// TestDecodeEachTwoBytes: all there are, at each place that l.Size can have.
func TestDecodeEachTwoBytes(t *testing.T) {
	for n := range 1 << 16 {
		b := []byte{byte(n >> 8), byte(n)}
		for _, size := range []int{0, 1, 2, 3, api.MaxSize} {
			checkAsWanted(t, b, api.Limits{Depth: n % 3, Size: size})
		}
	}
}

// TestDecodeFewBytes: all of up to four, and many of five, from those where
// something changes.
func TestDecodeFewBytes(t *testing.T) {
	letters := []byte{0x00, 0x01, 0x02, 0x61, 0x81, 0x90, 0x92, 0xA1, 0xA2, 0xC0, 0xC1, 0xC4, 0xC7, 0xC8, 0xD1, 0xD4, 0xD5, 0xD9, 0xDC, 0xDE, 0xE2, 0xFF}
	var grow func(b []byte)
	grow = func(b []byte) {
		checkAsWanted(t, b, most)
		checkAsWanted(t, b, api.Limits{Depth: len(b) % 3, Size: len(b) - 1 + int(b[0])%2})
		if len(b) == 5 || len(b) == 4 && b[0] != 0xC7 && b[0] != 0x92 {
			return
		}
		for _, x := range letters {
			grow(append(slices.Clone(b), x))
		}
	}
	for _, x := range letters {
		grow([]byte{x})
	}
}

// item are bytes that begin as an item may; most of them are one.
func (c *chance) item(depth int) []byte {
	b := []byte(wantEncode(c.tree(depth)))
	for range c.below(3) {
		i := c.below(len(b))
		switch c.below(4) {
		case 0:
			b[i] = byte(c.word() >> 20)
		case 1:
			b[i] ^= 1 << c.below(8)
		case 2:
			b = slices.Insert(b, i, []byte{0xC1, 0x90, 0x81, 0xA1, 0xC4, 0xC7, 0xD4, 0xD9, 0xDC, 0xDE, 0x00}[c.below(11)])
		case 3:
			b = slices.Delete(b, i, i+1)
		}
		if len(b) == 0 {
			return []byte{0x00}
		}
	}
	return b
}

// TestDecodeMany: items that something is wrong with, or nothing; at limits of
// all kinds.
func TestDecodeMany(t *testing.T) {
	c := chance(134)
	counts := map[api.Errno]int{}
	for range 100000 {
		b := c.item(4)
		checkAsWanted(t, b, most)
		l := api.Limits{Depth: c.below(6), Size: max(0, len(b)+c.below(8)-5), Once: c.below(2) == 0}
		if c.below(3) == 0 {
			b = b[:c.below(len(b)+1)]
		}
		checkAsWanted(t, b, l)
		_, _, e := wantDecode(b, l)
		counts[e]++
	}
	for _, e := range []api.Errno{api.OK, api.ErrShort, api.ErrForm, api.ErrLimit} {
		if counts[e] < 5000 {
			t.Errorf("only %d of them told %v", counts[e], e)
		}
	}
}

// TestDecodeCutTrees: at every place, by the end of b and by l.Size.
func TestDecodeCutTrees(t *testing.T) {
	c := chance(135)
	for range 1200 {
		v := c.tree(4)
		b := []byte(wantEncode(v))
		for cut := range b {
			checkRefused(t, b[:cut], most, cut, api.ErrShort)
			checkAsWanted(t, b[:cut], size(cut))
			checkAsWanted(t, b, size(cut))
			if _, _, e := pack.Decode(b, size(cut)); e != api.ErrLimit {
				t.Fatalf("Decode(% X), size %d: %v", b, cut, e)
			}
		}
		checkTaken(t, b, size(len(b)), v)
	}
}

// TestDecodeIsApart: each answer is its caller's, and shares nothing with b.
func TestDecodeIsApart(t *testing.T) {
	want := list(raw("abc"), pairs(text("a"), list(null(), ext(1, "d"))))
	b := []byte(wantEncode(want))
	v, _, _ := pack.Decode(b, most)
	for i := range b {
		b[i] = 0xC3
	}
	if !same(v, want) {
		t.Fatalf("Decode: %s", told(v))
	}
	b = []byte(wantEncode(want))
	other, _, _ := pack.Decode(b, most)
	other.L[1].L[1].L[0].K = api.KUndef
	other.L[0] = null()
	if !same(v, want) {
		t.Fatalf("Decode, changed by another's: %s", told(v))
	}
	if v, _, _ := pack.Decode(b, most); !same(v, want) {
		t.Fatalf("Decode again: %s", told(v))
	}
}
