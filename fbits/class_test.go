package fbits_test

import (
	"math"
	"testing"

	"glossator/api"
	"glossator/fbits"
)

func TestClassesAreNumbered(t *testing.T) {
	for want, got := range []int{fbits.Zero, fbits.Small, fbits.Plain, fbits.Inf, fbits.Nan} {
		if got != want {
			t.Errorf("a class is %d, want %d", got, want)
		}
	}
}

func TestClassAndPartsAtEdges(t *testing.T) {
	for _, x := range edges {
		checkClass(t, x.width, x.bits, x.class, api.OK)
		checkParts(t, x.width, x.bits, x.neg, x.exponent, x.fraction, api.OK)
	}
}

// checkBySigns asks for the class and the parts that signs 0 and 1 tell.
func checkBySigns(t *testing.T, width int, b uint64) {
	t.Helper()
	sign, exponent, fraction := parts(width, b)
	checkClass(t, width, b, wantClass(width, b), api.OK)
	checkParts(t, width, b, sign == "1", int(number(exponent)), number(fraction), api.OK)
}

func TestClassAndPartsOfAll16(t *testing.T) {
	for b := range uint64(1 << 16) {
		checkBySigns(t, 16, b)
	}
}

func TestClassAndPartsOfMany(t *testing.T) {
	c := chance(1)
	for _, width := range []int{32, 64} {
		for range 100000 {
			checkBySigns(t, width, c.float(width))
		}
		for place := range width {
			checkBySigns(t, width, 1<<place)
			checkBySigns(t, width, (math.MaxUint64>>(64-width))&^(1<<place))
			checkBySigns(t, width, math.MaxUint64>>(64-width)>>place)
		}
	}
}

// checkRefused asks all calls that are given a width and its bits for ErrArg.
func checkRefused(t *testing.T, width int, b uint64) {
	t.Helper()
	checkClass(t, width, b, 0, api.ErrArg)
	checkParts(t, width, b, false, 0, 0, api.ErrArg)
	checkWiden(t, width, b, 0, api.ErrArg)
}

func TestNoWidth(t *testing.T) {
	for _, width := range noWidths {
		for _, x := range edges {
			checkRefused(t, width, x.bits)
			checkNarrow(t, width, x.bits, 0, false, api.ErrArg)
		}
	}
	for width := -300; width <= 300; width++ {
		if width == 16 || width == 32 || width == 64 {
			continue
		}
		for _, b := range []uint64{0, 1, 0x3C00, 0x7FC00000, 0x3FF0000000000000, 0x7FF0000000000000, math.MaxUint64} {
			checkRefused(t, width, b)
			checkNarrow(t, width, b, 0, false, api.ErrArg)
		}
	}
}

func TestBitsTheWidthHasNot(t *testing.T) {
	for _, width := range []int{16, 32} {
		for place := width; place < 64; place++ {
			for _, x := range edges {
				if x.width <= width {
					checkRefused(t, width, x.bits|1<<place)
				}
			}
		}
		checkRefused(t, width, math.MaxUint64)
		checkRefused(t, width, math.MaxUint64<<width)
		checkRefused(t, width, 0x3FF0000000000000)
	}
	// Those that Narrow is given are of width 64, whatever the width is.
	for _, width := range widths {
		checkNarrow(t, width, 0xFFF0000000000000, map[int]uint64{16: 0xFC00, 32: 0xFF800000, 64: 0xFFF0000000000000}[width], true, api.OK)
	}
}
