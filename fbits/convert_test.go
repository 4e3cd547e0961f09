package fbits_test

import (
	"math"
	"testing"

	"glossator/api"
	"glossator/fbits"
)

func TestWidenAtEdges(t *testing.T) {
	for _, x := range edges {
		checkWiden(t, x.width, x.bits, x.wide, api.OK)
		checkNarrow(t, x.width, x.wide, x.bits, true, api.OK)
	}
}

func TestWidenAll16(t *testing.T) {
	for b := range uint64(1 << 16) {
		checkWiden(t, 16, b, wantWiden(16, b), api.OK)
	}
}

func TestWidenMany(t *testing.T) {
	c := chance(2)
	for _, width := range []int{32, 64} {
		for range 200000 {
			b := c.float(width)
			checkWiden(t, width, b, wantWiden(width, b), api.OK)
		}
	}
	// Each length of a fraction of what is Small.
	for place := range 23 {
		for _, b := range []uint64{1 << place, 1<<place | 1, 1<<(place+1) - 1, 1<<place | 1<<(place/2)} {
			checkWiden(t, 32, b, wantWiden(32, b), api.OK)
			checkWiden(t, 32, b|1<<31, wantWiden(32, b|1<<31), api.OK)
		}
	}
}

func TestNarrowExamples(t *testing.T) {
	for _, x := range []struct {
		width int
		wide  uint64
		want  uint64
		ok    bool
	}{
		{16, 0x3FF8000000000000, 0x3E00, true},
		// 2^-24, half of it, what is a bit more, and what is below it by a bit.
		{16, 0x3E70000000000000, 0x0001, true}, {16, 0x3E60000000000000, 0, false},
		{16, 0x3E70000000000001, 0, false}, {16, 0x3E6FFFFFFFFFFFFF, 0, false}, {16, 0x3E78000000000000, 0, false},
		// Small with the last bit kept, and with one bit lost.
		{16, 0x3E80000000000000, 0x0002, true}, {16, 0x3E88000000000000, 0x0003, true}, {16, 0x3E84000000000000, 0, false},
		{16, 0xBF0FF80000000000, 0x83FF, true}, {16, 0xBF0FFC0000000000, 0, false}, {16, 0x3F00080000000000, 0x0201, true}, {16, 0x3F00040000000000, 0, false},
		// Plain with the last bit kept, and with one bit lost.
		{16, 0x3F10040000000000, 0x0401, true}, {16, 0x3F10020000000000, 0, false}, {16, 0x3FF0040000000000, 0x3C01, true}, {16, 0x3FF0020000000000, 0, false},
		{16, 0x3FF0000000000001, 0, false}, {16, 0x3FEFFFFFFFFFFFFF, 0, false},
		// The greatest, one bit more, and 2^16.
		{16, 0x40EFFC0000000000, 0x7BFF, true}, {16, 0x40EFFE0000000000, 0, false}, {16, 0x40F0000000000000, 0, false}, {16, 0xC0F0000000000000, 0, false},
		// Numbers of which a 16 would have the last bits of the exponent.
		{16, 0x43F0000000000000, 0, false}, {16, 0x0000000000000001, 0, false}, {16, 0x0010000000000000, 0, false}, {16, 0x7FEFFFFFFFFFFFFF, 0, false},
		// Nans that lose a bit, and that don't.
		{16, 0x7FF0040000000000, 0x7C01, true}, {16, 0x7FF0020000000000, 0, false}, {16, 0x7FF8020000000000, 0, false}, {16, 0xFFF8000000000001, 0, false},
		{16, 0xFFFFFC0000000000, 0xFFFF, true}, {16, 0xFFFFFE0000000000, 0, false}, {16, 0x7FF0000000000001, 0, false}, {16, 0x7FF0000020000000, 0, false},

		// 2^-149, half of it, what is a bit more, and what is below it by a bit.
		{32, 0x36A0000000000000, 0x00000001, true}, {32, 0x3690000000000000, 0, false},
		{32, 0x36A0000000000001, 0, false}, {32, 0x369FFFFFFFFFFFFF, 0, false}, {32, 0x36A8000000000000, 0, false},
		{32, 0x36B0000000000000, 0x00000002, true}, {32, 0x36B8000000000000, 0x00000003, true}, {32, 0x36B4000000000000, 0, false},
		{32, 0xB80FFFFFC0000000, 0x807FFFFF, true}, {32, 0xB80FFFFFE0000000, 0, false}, {32, 0x3800000040000000, 0x00400001, true}, {32, 0x3800000020000000, 0, false},
		{32, 0x3810000020000000, 0x00800001, true}, {32, 0x3810000010000000, 0, false}, {32, 0x3FF0000020000000, 0x3F800001, true}, {32, 0x3FF0000010000000, 0, false},
		{32, 0x47EFFFFFE0000000, 0x7F7FFFFF, true}, {32, 0x47EFFFFFF0000000, 0, false}, {32, 0x47F0000000000000, 0, false}, {32, 0xC7F0000000000000, 0, false},
		{32, 0x0000000000000001, 0, false}, {32, 0x0010000000000000, 0, false}, {32, 0x7FEFFFFFFFFFFFFF, 0, false}, {32, 0x3FB999999999999A, 0, false},
		{32, 0x7FF0000020000000, 0x7F800001, true}, {32, 0x7FF0000010000000, 0, false}, {32, 0x7FF8000010000000, 0, false}, {32, 0xFFF8000000000001, 0, false},
		{32, 0xFFFFFFFFE0000000, 0xFFFFFFFF, true}, {32, 0xFFFFFFFFF0000000, 0, false}, {32, 0x7FF0000000000001, 0, false},

		{64, 0x0000000000000001, 1, true}, {64, 0x3FB999999999999A, 0x3FB999999999999A, true}, {64, 0x7FF0000000000001, 0x7FF0000000000001, true},
		{64, math.MaxUint64, math.MaxUint64, true}, {64, 0x8000000000000000, 0x8000000000000000, true},
	} {
		checkNarrow(t, x.width, x.wide, x.want, x.ok, api.OK)
	}
}

// checkNarrowAsWanted asks Narrow for what the document's words tell.
func checkNarrowAsWanted(t *testing.T, b uint64) {
	t.Helper()
	for _, width := range widths {
		want, ok := wantNarrow(width, b)
		checkNarrow(t, width, b, want, ok, api.OK)
	}
}

func TestNarrowAboutAll16(t *testing.T) {
	for b := range uint64(1 << 16) {
		wide := wantWiden(16, b)
		checkNarrow(t, 16, wide, b, true, api.OK)
		checkNarrowAsWanted(t, wide+1)
		checkNarrowAsWanted(t, wide-1)
		for place := b % 3; place < 64; place += 3 {
			checkNarrowAsWanted(t, wide^1<<place)
		}
	}
}

func TestNarrowEachExponent(t *testing.T) {
	for exponent := range uint64(1 << 11) {
		for place := -1; place < 52; place++ {
			b := exponent << 52
			if place >= 0 {
				b |= 1 << place
			}
			checkNarrowAsWanted(t, b)
			checkNarrowAsWanted(t, b|1<<63)
			checkNarrowAsWanted(t, b|(1<<52-1)>>(place+1)<<(place+1))
		}
	}
}

func TestNarrowMany(t *testing.T) {
	c := chance(3)
	kept := 0
	for range 300000 {
		b := c.float(64)
		if c.word()%2 == 0 {
			b = wantWiden(32, c.float(32)) ^ c.word()%2<<(c.word()%64)
		}
		checkNarrowAsWanted(t, b)
		if _, ok := wantNarrow(32, b); ok {
			kept++
		}
	}
	if kept < 30000 || kept > 270000 {
		t.Errorf("width 32 has %d of 300000", kept)
	}
}

// TestNarrowUndoesWiden: and Widen, where there is something to undo, Narrow.
func TestNarrowUndoesWiden(t *testing.T) {
	check := func(width int, b uint64) {
		wide, e := fbits.Widen(width, b)
		if e != api.OK {
			t.Fatalf("Widen(%d, %X): %v", width, b, e)
		}
		checkNarrow(t, width, wide, b, true, api.OK)
	}
	for b := range uint64(1 << 16) {
		check(16, b)
	}
	c := chance(4)
	for _, width := range []int{32, 64} {
		for range 200000 {
			b := c.float(width)
			check(width, b)
			if narrow, ok, _ := fbits.Narrow(width, b); ok {
				checkWiden(t, width, narrow, b, api.OK)
			}
		}
	}
	for _, x := range edges {
		check(x.width, x.bits)
	}
}
