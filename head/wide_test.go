package head_test

import (
	"testing"

	"glossator/api"
	"glossator/head"
)

func TestWideExamples(t *testing.T) {
	for _, x := range []struct {
		major int
		n     uint64
		size  int
		want  string
	}{
		{0, 0, 0, "\x00"}, {0, 0, 1, "\x18\x00"}, {0, 0, 2, "\x19\x00\x00"}, {0, 0, 4, "\x1A\x00\x00\x00\x00"}, {0, 0, 8, "\x1B\x00\x00\x00\x00\x00\x00\x00\x00"},
		{0, 500, 2, "\x19\x01\xF4"}, {0, 500, 4, "\x1A\x00\x00\x01\xF4"}, {0, 500, 8, "\x1B\x00\x00\x00\x00\x00\x00\x01\xF4"},
		{1, 9, 0, "\x29"}, {1, 9, 1, "\x38\x09"}, {2, 5, 1, "\x58\x05"}, {3, 5, 2, "\x79\x00\x05"}, {4, 2, 4, "\x9A\x00\x00\x00\x02"}, {5, 2, 8, "\xBB\x00\x00\x00\x00\x00\x00\x00\x02"}, {6, 1, 1, "\xD8\x01"},
		{7, 0, 0, "\xE0"}, {7, 19, 0, "\xF3"}, {7, 20, 0, "\xF4"}, {7, 23, 0, "\xF7"}, {7, 32, 1, "\xF8\x20"}, {7, 255, 1, "\xF8\xFF"},
	} {
		checkWide(t, x.major, x.n, x.size, []byte(x.want), api.OK)
	}
}

// TestWideMost: of each size the greatest number that it has, and one more.
func TestWideMost(t *testing.T) {
	for major := range 7 {
		for _, x := range []struct {
			size int
			most uint64
			want string // but for the major
		}{
			{0, 23, "\x17"},
			{1, 255, "\x18\xFF"},
			{2, 65535, "\x19\xFF\xFF"},
			{4, 4294967295, "\x1A\xFF\xFF\xFF\xFF"},
			{8, maxUint64, "\x1B\xFF\xFF\xFF\xFF\xFF\xFF\xFF\xFF"},
		} {
			want := []byte(x.want)
			want[0] += byte(major) * 32
			checkWide(t, major, x.most, x.size, want, api.OK)
			if x.size < 8 {
				checkWide(t, major, x.most+1, x.size, nil, api.ErrArg)
				checkWide(t, major, maxUint64, x.size, nil, api.ErrArg)
			}
		}
	}
}

// TestWideMajor7: of no byte behind the first below 24, of one above 31, of
// more none.
func TestWideMajor7(t *testing.T) {
	for n := range uint64(1000) {
		if n < 24 {
			checkWide(t, 7, n, 0, []byte{0xE0 + byte(n)}, api.OK)
		} else {
			checkWide(t, 7, n, 0, nil, api.ErrArg)
		}
		if n > 31 && n < 256 {
			checkWide(t, 7, n, 1, []byte{0xF8, byte(n)}, api.OK)
		} else {
			checkWide(t, 7, n, 1, nil, api.ErrArg)
		}
	}
	for _, n := range edges {
		for _, size := range []int{2, 4, 8} {
			checkWide(t, 7, n, size, nil, api.ErrArg)
		}
	}
}

func TestWideNoSize(t *testing.T) {
	for _, size := range noSizes {
		for major := range 8 {
			for _, n := range edges {
				checkWide(t, major, n, size, nil, api.ErrArg)
			}
		}
	}
}

func TestWideNoMajor(t *testing.T) {
	for _, major := range noMajors {
		for _, n := range edges {
			for _, size := range append(noSizes, sizes...) {
				checkWide(t, major, n, size, nil, api.ErrArg)
			}
		}
	}
}

func TestWideAtEdges(t *testing.T) {
	for major := -5; major < 20; major++ {
		for size := -70; size < 300; size++ {
			for _, n := range edges {
				checkWideAsWanted(t, major, n, size)
			}
		}
	}
	for major := range 8 {
		for _, size := range sizes {
			for n := range uint64(70000) {
				checkWideAsWanted(t, major, n, size)
			}
		}
	}
}

func TestWideMany(t *testing.T) {
	c := chance(102)
	for range 200000 {
		checkWideAsWanted(t, c.below(8), c.number(), sizes[c.below(len(sizes))])
	}
}

// TestWideIsApart: each answer is its caller's.
func TestWideIsApart(t *testing.T) {
	for major := range 7 {
		for _, size := range sizes {
			for range 2 {
				b, _ := head.Wide(major, 5, size)
				want, _ := wantWide(major, 5, size)
				if string(b) != string(want) {
					t.Fatalf("Wide(%d, 5, %d): %X, want %X", major, size, b, want)
				}
				clear(b[:cap(b)])
			}
		}
	}
}
