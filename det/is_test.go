package det_test

import (
	"bytes"
	"slices"
	"strings"
	"testing"

	"glossator/api"
	"glossator/cbor"
	"glossator/head"
)

// TestIs: by hand.
func TestIs(t *testing.T) {
	for _, x := range []struct {
		letters string
		want    bool
	}{
		{"05", true}, {"18 05", false}, {"", false}, {"FF", false}, {"1C", false},
		{"00", true}, {"17", true}, {"18 17", false}, {"18 18", true}, {"19 00 FF", false}, {"19 01 00", true}, {"1A 00 00 FF FF", false}, {"1A 00 01 00 00", true}, {"1B 00 00 00 00 FF FF FF FF", false}, {"1B 00 00 00 01 00 00 00 00", true},
		{"37", true}, {"38 17", false}, {"38 18", true}, {"39 00 FF", false}, {"3A 00 00 00 00", false}, {"3B FF FF FF FF FF FF FF FF", true}, {"3B 00 00 00 00 00 00 00 00", false},
		{"40", true}, {"41 00", true}, {"58 01 00", false}, {"58 00", false}, {"59 00 01 00", false}, {"5A 00 00 00 00", false}, {"5B 00 00 00 00 00 00 00 00", false},
		{"60", true}, {"61 61", true}, {"78 01 61", false}, {"79 00 00", false}, {"7A 00 00 00 01 61", false}, {"61 80", false}, {"62 E2 82", false},
		{"80", true}, {"81 F6", true}, {"98 00", false}, {"98 01 F6", false}, {"99 00 01 F6", false}, {"9A 00 00 00 00", false}, {"9B 00 00 00 00 00 00 00 01 F6", false},
		{"A0", true}, {"A1 00 F6", true}, {"B8 00", false}, {"B8 01 00 F6", false}, {"B9 00 01 00 F6", false}, {"BA 00 00 00 00", false}, {"BB 00 00 00 00 00 00 00 00", false},
		{"C0 F6", true}, {"D8 00 F6", false}, {"D8 18 F6", true}, {"D8 17 F6", false}, {"D9 00 18 F6", false}, {"DA 00 00 01 00 F6", false}, {"DB 00 00 00 00 00 00 00 01 F6", false}, {"DB 00 00 00 01 00 00 00 00 F6", true},
		{"E0", true}, {"F3", true}, {"F4", true}, {"F5", true}, {"F6", true}, {"F7", true}, {"F8 00", false}, {"F8 13", false}, {"F8 18", false}, {"F8 1F", false}, {"F8 20", true}, {"F8 FF", true},
		// Open ones, empty and not, at the top and within.
		{"5F FF", false}, {"5F 41 00 FF", false}, {"7F FF", false}, {"7F 61 61 FF", false}, {"9F FF", false}, {"9F 00 FF", false}, {"BF FF", false}, {"BF 00 00 FF", false}, {"81 9F FF", false}, {"A1 5F FF 00", false}, {"A1 00 7F FF", false}, {"C1 BF FF", false}, {"C2 5F 49 01 00 00 00 00 00 00 00 00 FF", false},
		// Keys.
		{"A2 00 00 01 00", true}, {"A2 01 00 00 00", false}, {"A2 00 00 00 00", false}, {"A2 00 01 00 02", false}, {"A2 61 61 00 61 62 00", true}, {"A2 61 62 00 61 61 00", false}, {"A2 61 62 00 62 61 61 00", true}, {"A2 62 61 61 00 61 62 00", false}, {"A3 00 00 02 00 01 00", false}, {"A3 00 00 01 00 01 00", false}, {"A2 18 18 00 19 01 00 00", true},
		{"A2 17 00 18 18 00", true}, {"A2 00 00 20 00", true}, {"A2 20 00 00 00", false}, {"A2 F6 00 F9 00 00 00", true}, {"A2 F9 00 00 00 F6 00", false}, {"A1 A2 01 00 00 00 00", false}, {"A1 A2 00 00 01 00 00", true}, {"A1 00 A2 01 00 00 00", false}, {"81 A2 01 00 00 00", false}, {"A2 80 00 81 00 00", true}, {"A2 81 00 00 80 00", false},
		// Floats.
		{"F9 3C 00", true}, {"FA 3F 80 00 00", false}, {"FB 3F F0 00 00 00 00 00 00", false}, {"F9 00 00", true}, {"F9 80 00", true}, {"FA 80 00 00 00", false}, {"FB 80 00 00 00 00 00 00 00", false}, {"FA 3F 80 00 01", true}, {"FB 3F F0 00 00 20 00 00 00", false}, {"FB 3F F0 00 00 10 00 00 00", true},
		{"F9 7E 00", true}, {"F9 7C 01", true}, {"FA 7F C0 00 00", false}, {"FA 7F C0 00 01", true}, {"FB 7F F8 00 00 00 00 00 00", false}, {"FB 7F F8 00 00 20 00 00 00", false}, {"FB 7F F8 00 00 00 00 00 01", true}, {"F9 7C 00", true}, {"FA 7F 80 00 00", false}, {"81 FA 3F 80 00 00", false},
		// Numbers.
		{"C2 40", false}, {"C3 40", false}, {"C2 41 00", false}, {"C2 41 05", false}, {"C3 41 05", false}, {"C2 48 01 00 00 00 00 00 00 00", false}, {"C2 49 00 01 00 00 00 00 00 00 00", false}, {"C2 49 01 00 00 00 00 00 00 00 00", true}, {"C3 49 01 00 00 00 00 00 00 00 00", true}, {"C2 4A 00 01 00 00 00 00 00 00 00 00", false},
		{"D8 02 49 01 00 00 00 00 00 00 00 00", false}, {"C2 58 09 01 00 00 00 00 00 00 00 00", false}, {"C4 40", true}, {"C1 49 00 01 00 00 00 00 00 00 00", true}, {"C2 61 61", true}, {"C2 05", true}, {"C2 C2 05", true}, {"C2 C2 41 05", false},
		// Whole, and nothing behind.
		{"00 00", false}, {"80 80", false}, {"81", false}, {"82 00", false}, {"A1 00", false}, {"C0", false}, {"F9 3C", false}, {"05 FF", false}, {"19 01", false}, {"42 00", false},
	} {
		b := bytesOf(t, x.letters)
		checkIs(t, b, x.want)
		if wantIs(b) != x.want {
			t.Fatalf("wantIs(%s): %v", x.letters, !x.want)
		}
		if !x.want || len(b) == 0 {
			continue
		}
		for cut := range b {
			checkIs(t, b[:cut], false)
		}
		for _, behind := range []byte{0, 5, 0x80, 0xF6, 0xFF} {
			checkIs(t, append(slices.Clone(b), behind), false)
		}
		checkIs(t, append([]byte{0x81}, b...), true)
		checkIs(t, append([]byte{0x9F}, append(b, 0xFF)...), false)
	}
	checkIs(t, nil, false)
}

// TestIsOfLongerHeads: at each kind of a head, with each size that has its
// number.
func TestIsOfLongerHeads(t *testing.T) {
	for major := range 7 {
		for _, n := range []uint64{0, 1, 22, 23, 24, 25, 254, 255, 256, 257, 1<<16 - 1, 1 << 16} {
			behind := []byte{}
			switch major {
			case 2, 3:
				behind = slices.Repeat([]byte{'a'}, int(n))
			case 4:
				behind = slices.Repeat([]byte{0xF6}, int(n))
			case 5:
				for key := range n {
					b, _ := head.Put(0, key)
					behind = append(append(behind, b...), 0xF6)
				}
			case 6:
				behind = []byte{0xF6}
			}
			least, _ := head.Put(major, n)
			for _, size := range []int{0, 1, 2, 4, 8} {
				b, e := head.Wide(major, n, size)
				if e != api.OK {
					continue
				}
				tooMany := major == 4 && n > api.MaxNodes-1 || major == 5 && 2*n > api.MaxNodes-1
				b = append(b, behind...)
				checkIs(t, b, size == len(least)-1 && !tooMany)
				checkIs(t, append([]byte{0x80 + 2, 0xF6}, b...), size == len(least)-1 && !tooMany && !(major == 4 && n > api.MaxNodes-4) && !(major == 5 && 2*n > api.MaxNodes-4))
			}
		}
	}
	for n := range 256 { // of the major 7
		checkIs(t, []byte{0xF8, byte(n)}, n > 31)
		checkIs(t, []byte{0xE0 + byte(n%20)}, true)
	}
}

// TestIsAtLimits: those of the decoder.
func TestIsAtLimits(t *testing.T) {
	for _, x := range []struct{ begin, inner string }{{"\x81", "\x80"}, {"\xA1\x00", "\xA0"}, {"\xC1", "\xC1\x00"}, {"\x81", "\xC2\x49" + big(9)}, {"\x81", "\xC2\x59\x02\x01" + big(513)}, {"\x81", "\xC2\xF6"}} {
		for _, n := range []int{0, 1, 62, 63, 64, 65} {
			b := []byte(strings.Repeat(x.begin, n) + x.inner)
			checkIs(t, b, n < 64)
			if wantIs(b) != (n < 64) {
				t.Fatalf("wantIs of %d times % X: %v", n, x.begin, !(n < 64))
			}
		}
	}
	for _, n := range []int{api.MaxSize - 6, api.MaxSize - 5, api.MaxSize - 4, 2 * api.MaxSize} {
		b := item(raw(strings.Repeat("a", n)))
		checkIs(t, b, len(b) <= api.MaxSize)
	}
	for _, n := range []int{api.MaxNodes - 2, api.MaxNodes - 1, api.MaxNodes, api.MaxNodes + 1} {
		b, _ := head.Put(4, uint64(n))
		b = append(b, slices.Repeat([]byte{0xF6}, n)...)
		checkIs(t, b, n < api.MaxNodes)
	}
}

// TestIsOfEachTwoBytes: all there are, and those with some behind.
func TestIsOfEachTwoBytes(t *testing.T) {
	tails := []string{"", "\x00", "\xF6", "\x00\x00", "\x01\x00", "\x00\xF6\x01", big(9), "\x00" + big(8), "\x01" + big(9), "\xFF"}
	for n := range 1 << 16 {
		for _, tail := range tails {
			b := append([]byte{byte(n >> 8), byte(n)}, tail...)
			checkIs(t, b, wantIs(b))
		}
	}
	for n := range 256 {
		checkIs(t, []byte{byte(n)}, wantIs([]byte{byte(n)}))
	}
}

// TestIsOfFewBytes: up to five, and many of six, from those where something
// changes.
func TestIsOfFewBytes(t *testing.T) {
	letters := []byte{0x00, 0x01, 0x18, 0x20, 0x40, 0x41, 0x61, 0x80, 0x81, 0x82, 0x9F, 0xA1, 0xA2, 0xC2, 0xF6, 0xFF}
	found := 0
	var grow func(b []byte)
	grow = func(b []byte) {
		want := wantIs(b)
		checkIs(t, b, want)
		if want {
			found++
		}
		if len(b) == 6 || len(b) == 5 && b[0] != 0xA2 || len(b) > 2 && wantIs(b[:1]) {
			return
		}
		for _, x := range letters {
			grow(append(slices.Clone(b), x))
		}
	}
	for _, x := range letters {
		grow([]byte{x})
	}
	if found < 5000 {
		t.Fatalf("only %d of them are deterministic", found)
	}
}

// TestIsOfMany: items of trees, plain and not, open and not, with something
// changed in some of them.
func TestIsOfMany(t *testing.T) {
	c := chance(123)
	found := 0
	for range 60000 {
		v := c.tree(4)
		if p, ok := wantPlain(v); ok && c.below(2) == 0 {
			v = p
		}
		b, _ := cbor.Encode(v, api.Option{Open: c.below(8) == 0})
		for range c.below(3) {
			i := c.below(len(b))
			switch c.below(4) {
			case 0:
				b[i] = byte(c.word() >> 20)
			case 1:
				b[i] ^= 1 << c.below(8)
			case 2:
				b = slices.Insert(b, i, []byte{0x00, 0x18, 0x58, 0x98, 0xF6, 0xFF, 0xC2, 0x40}[c.below(8)])
			default:
				b = append(b[:i], 0x00)
			}
		}
		want := wantIs(b)
		checkIs(t, b, want)
		if want {
			found++
			v, _, _ := cbor.Decode(b, api.Limits{Depth: api.MaxDepth, Size: api.MaxSize})
			checkPlain(t, v, v)
			if !bytes.Equal(item(v), b) {
				t.Fatalf("% X is not the item of %s", b, told(v))
			}
		}
	}
	if found < 10000 {
		t.Fatalf("only %d of them are deterministic", found)
	}
}
