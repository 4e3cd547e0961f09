package head_test

import (
	"testing"

	"glossator/api"
	"glossator/head"
)

// TestPutExamples: those of the document and of RFC 8949.
func TestPutExamples(t *testing.T) {
	for _, x := range []struct {
		major int
		n     uint64
		want  string
	}{
		{0, 500, "\x19\x01\xF4"},
		{0, 0, "\x00"}, {0, 1, "\x01"}, {0, 10, "\x0A"}, {0, 23, "\x17"}, {0, 24, "\x18\x18"}, {0, 25, "\x18\x19"}, {0, 100, "\x18\x64"}, {0, 1000, "\x19\x03\xE8"},
		{0, 1000000, "\x1A\x00\x0F\x42\x40"}, {0, 1000000000000, "\x1B\x00\x00\x00\xE8\xD4\xA5\x10\x00"}, {0, maxUint64, "\x1B\xFF\xFF\xFF\xFF\xFF\xFF\xFF\xFF"},
		{1, 0, "\x20"}, {1, 9, "\x29"}, {1, 99, "\x38\x63"}, {1, 999, "\x39\x03\xE7"}, {1, maxUint64, "\x3B\xFF\xFF\xFF\xFF\xFF\xFF\xFF\xFF"},
		{2, 0, "\x40"}, {2, 4, "\x44"}, {3, 0, "\x60"}, {3, 4, "\x64"}, {4, 0, "\x80"}, {4, 3, "\x83"}, {4, 25, "\x98\x19"}, {5, 0, "\xA0"}, {5, 5, "\xA5"},
		{6, 0, "\xC0"}, {6, 1, "\xC1"}, {6, 23, "\xD7"}, {6, 32, "\xD8\x20"}, {6, 55799, "\xD9\xD9\xF7"},
		{7, 20, "\xF4"}, {7, 21, "\xF5"}, {7, 22, "\xF6"}, {7, 23, "\xF7"}, {7, 16, "\xF0"}, {7, 255, "\xF8\xFF"},
	} {
		checkPut(t, x.major, x.n, []byte(x.want), api.OK)
	}
}

// TestPutGetsLonger: of each major but 7 the bytes at and beside each place
// where the head gets longer.
func TestPutGetsLonger(t *testing.T) {
	for major := range 7 {
		for _, x := range []struct {
			n    uint64
			want string // but for the major
		}{
			{22, "\x16"},
			{23, "\x17"},
			{24, "\x18\x18"},
			{25, "\x18\x19"},
			{254, "\x18\xFE"},
			{255, "\x18\xFF"},
			{256, "\x19\x01\x00"},
			{257, "\x19\x01\x01"},
			{65534, "\x19\xFF\xFE"},
			{65535, "\x19\xFF\xFF"},
			{65536, "\x1A\x00\x01\x00\x00"},
			{65537, "\x1A\x00\x01\x00\x01"},
			{4294967294, "\x1A\xFF\xFF\xFF\xFE"},
			{4294967295, "\x1A\xFF\xFF\xFF\xFF"},
			{4294967296, "\x1B\x00\x00\x00\x01\x00\x00\x00\x00"},
			{4294967297, "\x1B\x00\x00\x00\x01\x00\x00\x00\x01"},
			{0x0102030405060708, "\x1B\x01\x02\x03\x04\x05\x06\x07\x08"},
			{maxUint64 - 1, "\x1B\xFF\xFF\xFF\xFF\xFF\xFF\xFF\xFE"},
			{maxUint64, "\x1B\xFF\xFF\xFF\xFF\xFF\xFF\xFF\xFF"},
		} {
			want := []byte(x.want)
			want[0] += byte(major) * 32
			checkPut(t, major, x.n, want, api.OK)
		}
	}
}

// TestPutMajor7: it has numbers of one byte alone, and none of 24 to 31.
func TestPutMajor7(t *testing.T) {
	for n := range uint64(1000) {
		switch {
		case n < 24:
			checkPut(t, 7, n, []byte{0xE0 + byte(n)}, api.OK)
		case n < 32 || n > 255:
			checkPut(t, 7, n, nil, api.ErrArg)
		default:
			checkPut(t, 7, n, []byte{0xF8, byte(n)}, api.OK)
		}
	}
	for n := uint64(256); n > 0; n <<= 1 { // up to the highest bit
		for low := range uint64(64) {
			checkPut(t, 7, n|low, nil, api.ErrArg)
		}
	}
	checkPut(t, 7, maxUint64, nil, api.ErrArg)
}

func TestPutNoMajor(t *testing.T) {
	for _, major := range noMajors {
		for _, n := range edges {
			checkPut(t, major, n, nil, api.ErrArg)
		}
	}
}

func TestPutAtEdges(t *testing.T) {
	for major := -20; major < 300; major++ {
		for _, n := range edges {
			checkPutAsWanted(t, major, n)
		}
	}
	for major := range 8 {
		for n := range uint64(70000) {
			checkPutAsWanted(t, major, n)
		}
	}
}

func TestPutMany(t *testing.T) {
	c := chance(101)
	for range 200000 {
		checkPutAsWanted(t, c.below(8), c.number())
	}
}

// TestPutIsApart: each answer is its caller's.
func TestPutIsApart(t *testing.T) {
	for _, n := range []uint64{0, 32, 255} {
		for major := range 8 {
			for range 2 {
				b, _ := head.Put(major, n)
				want, _ := wantPut(major, n)
				if string(b) != string(want) {
					t.Fatalf("Put(%d, %d): %X, want %X", major, n, b, want)
				}
				clear(b[:cap(b)])
			}
		}
	}
}
