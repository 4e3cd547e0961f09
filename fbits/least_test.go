package fbits_test

import "testing"

func TestLeastExamples(t *testing.T) {
	for _, x := range []struct {
		bits  uint64
		width int
		want  uint64
	}{
		// Numbers.
		{0x0000000000000000, 16, 0x0000}, {0x8000000000000000, 16, 0x8000}, {0x3FF0000000000000, 16, 0x3C00}, {0xBFF8000000000000, 16, 0xBE00},
		{0x3E70000000000000, 16, 0x0001}, {0x40EFFC0000000000, 16, 0x7BFF},
		{0x40F0000000000000, 32, 0x47800000}, {0x3E60000000000000, 32, 0x33000000}, {0x3FF0020000000000, 32, 0x3F801000}, {0xC0F86A0000000000, 32, 0xC7C35000},
		{0x36A0000000000000, 32, 0x00000001}, {0x47EFFFFFE0000000, 32, 0x7F7FFFFF},
		{0x3FB999999999999A, 64, 0x3FB999999999999A}, {0x47F0000000000000, 64, 0x47F0000000000000}, {0x3690000000000000, 64, 0x3690000000000000},
		{0x0000000000000001, 64, 0x0000000000000001}, {0x7FEFFFFFFFFFFFFF, 64, 0x7FEFFFFFFFFFFFFF}, {0x3FF0000010000000, 64, 0x3FF0000010000000},
		// What is infinite, which each width has.
		{0x7FF0000000000000, 16, 0x7C00}, {0xFFF0000000000000, 16, 0xFC00},
		// Nans.
		{0x7FF8000000000000, 16, 0x7E00}, {0xFFF0040000000000, 16, 0xFC01}, {0x7FF0020000000000, 32, 0x7F801000}, {0xFFF8000020000000, 32, 0xFFC00001},
		{0x7FF0000020000000, 32, 0x7F800001}, {0x7FF0000010000000, 64, 0x7FF0000010000000}, {0xFFF8000000000001, 64, 0xFFF8000000000001},
		{0x7FF0000000000001, 64, 0x7FF0000000000001}, {0xFFFFFFFFFFFFFFFF, 64, 0xFFFFFFFFFFFFFFFF},
	} {
		checkLeast(t, x.bits, x.width, x.want)
	}
}

// checkLeastAsWanted asks Least for what the document's words tell.
func checkLeastAsWanted(t *testing.T, b uint64) {
	t.Helper()
	width, want := wantLeast(b)
	checkLeast(t, b, width, want)
}

func TestLeastOfAll16(t *testing.T) {
	for b := range uint64(1 << 16) {
		wide := wantWiden(16, b)
		checkLeast(t, wide, 16, b)
		checkLeastAsWanted(t, wide+1)
		checkLeastAsWanted(t, wide^1<<(b%64))
	}
}

func TestLeastOfMany(t *testing.T) {
	c := chance(9)
	seen := map[int]int{}
	for range 200000 {
		b := c.float(64)
		if c.word()%2 == 0 {
			b = wantWiden(32, c.float(32))
		}
		checkLeastAsWanted(t, b)
		width, _ := wantLeast(b)
		seen[width]++
	}
	for _, width := range widths {
		if seen[width] < 2000 {
			t.Errorf("width %d was the least of just %d", width, seen[width])
		}
	}
}
