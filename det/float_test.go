package det_test

import (
	"bytes"
	"testing"

	"glossator/api"
	"glossator/det"
)

// TestFloats: by hand, of each class and each least width.
func TestFloats(t *testing.T) {
	for _, x := range []struct {
		v, want api.Value
		item    string
	}{
		{f64(0x3FF0000000000000), f16(0x3C00), "F9 3C 00"},
		{f32(0x3F800000), f16(0x3C00), "F9 3C 00"},
		{f16(0x3C00), f16(0x3C00), "F9 3C 00"},
		{f64(0), f16(0), "F9 00 00"}, {f32(0), f16(0), "F9 00 00"},
		{f64(1 << 63), f16(0x8000), "F9 80 00"}, {f32(1 << 31), f16(0x8000), "F9 80 00"}, {f16(0x8000), f16(0x8000), "F9 80 00"},
		{f64(0x3FB999999999999A), f64(0x3FB999999999999A), "FB 3F B9 99 99 99 99 99 9A"},
		{f64(0x3FB99999A0000000), f32(0x3DCCCCCD), "FA 3D CC CC CD"},
		// The greatest of each width, and those just beside it.
		{f64(0x40EFFC0000000000), f16(0x7BFF), "F9 7B FF"}, {f32(0x477FE000), f16(0x7BFF), "F9 7B FF"},
		{f64(0x40EFFC0020000000), f32(0x477FE001), "FA 47 7F E0 01"}, {f64(0x40EFFC0000000001), f64(0x40EFFC0000000001), "FB 40 EF FC 00 00 00 00 01"},
		{f64(0x40F0000000000000), f32(0x47800000), "FA 47 80 00 00"}, {f32(0x47800000), f32(0x47800000), "FA 47 80 00 00"},
		{f64(0x47EFFFFFE0000000), f32(0x7F7FFFFF), "FA 7F 7F FF FF"}, {f64(0xC7EFFFFFE0000000), f32(0xFF7FFFFF), "FA FF 7F FF FF"},
		{f64(0x47EFFFFFE0000001), f64(0x47EFFFFFE0000001), "FB 47 EF FF FF E0 00 00 01"}, {f64(0x47F0000000000000), f64(0x47F0000000000000), "FB 47 F0 00 00 00 00 00 00"},
		{f64(0x7FEFFFFFFFFFFFFF), f64(0x7FEFFFFFFFFFFFFF), "FB 7F EF FF FF FF FF FF FF"},
		// The least of each width, small and plain, and those just beside it.
		{f64(0x3F10000000000000), f16(0x0400), "F9 04 00"}, {f64(0x3F0FF80000000000), f16(0x03FF), "F9 03 FF"}, {f64(0x3E70000000000000), f16(0x0001), "F9 00 01"}, {f32(0x33800000), f16(0x0001), "F9 00 01"},
		{f64(0x3E60000000000000), f32(0x33000000), "FA 33 00 00 00"}, {f64(0x3E78000000000000), f32(0x33C00000), "FA 33 C0 00 00"}, {f64(0x3F0FFC0000000000), f32(0x387FE000), "FA 38 7F E0 00"},
		{f64(0x3810000000000000), f32(0x00800000), "FA 00 80 00 00"}, {f64(0x380FFFFFC0000000), f32(0x007FFFFF), "FA 00 7F FF FF"}, {f64(0x36A0000000000000), f32(0x00000001), "FA 00 00 00 01"},
		{f64(0x3690000000000000), f64(0x3690000000000000), "FB 36 90 00 00 00 00 00 00"}, {f64(0x36A8000000000000), f64(0x36A8000000000000), "FB 36 A8 00 00 00 00 00 00"},
		{f64(1), f64(1), "FB 00 00 00 00 00 00 00 01"}, {f32(1), f32(1), "FA 00 00 00 01"}, {f16(1), f16(1), "F9 00 01"},
		{f64(0x7FF0000000000000), f16(0x7C00), "F9 7C 00"}, {f64(0xFFF0000000000000), f16(0xFC00), "F9 FC 00"}, {f32(0x7F800000), f16(0x7C00), "F9 7C 00"}, {f32(0xFF800000), f16(0xFC00), "F9 FC 00"},
		// Bits of a Nan are bits: none gets lost, and none is made another.
		{f64(0x7FF8000000000000), f16(0x7E00), "F9 7E 00"}, {f32(0x7FC00000), f16(0x7E00), "F9 7E 00"}, {f64(0xFFF8000000000000), f16(0xFE00), "F9 FE 00"},
		{f64(0x7FF0040000000000), f16(0x7C01), "F9 7C 01"}, {f32(0x7F802000), f16(0x7C01), "F9 7C 01"}, {f64(0xFFFFFC0000000000), f16(0xFFFF), "F9 FF FF"},
		{f64(0x7FF0020000000000), f32(0x7F801000), "FA 7F 80 10 00"}, {f64(0x7FF0000020000000), f32(0x7F800001), "FA 7F 80 00 01"}, {f32(0x7F800001), f32(0x7F800001), "FA 7F 80 00 01"}, {f64(0xFFFFFFFFE0000000), f32(0xFFFFFFFF), "FA FF FF FF FF"},
		{f64(0x7FF0000010000000), f64(0x7FF0000010000000), "FB 7F F0 00 00 10 00 00 00"}, {f64(0x7FF0000000000001), f64(0x7FF0000000000001), "FB 7F F0 00 00 00 00 00 01"}, {f64(maxUint64), f64(maxUint64), "FB FF FF FF FF FF FF FF FF"},
	} {
		for _, wrap := range wraps() {
			checkPlain(t, wrap(x.v), wrap(x.want))
		}
		checkAsWanted(t, x.v)
		if b, _ := det.Encode(x.v); !bytes.Equal(b, bytesOf(t, x.item)) {
			t.Fatalf("Encode(%s): % X", told(x.v), b)
		}
		checkIs(t, bytesOf(t, x.item), true)
		checkIs(t, item(x.v), same(x.v, x.want))
	}
}

// checkFloats holds floats against the document's words, all within one list.
func checkFloats(t *testing.T, l []api.Value) {
	t.Helper()
	want := list()
	for _, v := range l {
		want.L = append(want.L, wantFloat(v))
	}
	got, e := det.Plain(list(l...))
	for i, v := range l {
		if e != api.OK || !same(got.L[i], want.L[i]) {
			t.Fatalf("Plain(%s): %s, %v, want %s", told(v), told(got.L[i]), e, told(want.L[i]))
		}
	}
	if again, e := det.Plain(got); !same(again, want) || e != api.OK {
		t.Fatalf("Plain of Plain of floats: %v", e)
	}
}

// TestFloatsOfEachHalf: all bits of width 16, in each width that has them.
func TestFloatsOfEachHalf(t *testing.T) {
	for from := uint64(0); from < 1<<16; from += 1 << 12 {
		var l []api.Value
		for n := from; n < from+1<<12; n++ {
			wide := f64(wantWide(f16(n)))
			l = append(l, f16(n), wide)
			if !same(wantFloat(wide), f16(n)) {
				t.Fatalf("of %X: %s", n, told(wantFloat(wide)))
			}
			for _, beside := range []uint64{1, 1 << 28, 1 << 29, 1 << 41} {
				l = append(l, f64(wide.N+beside), f64(wide.N-beside))
			}
		}
		checkFloats(t, l)
	}
}

// fractions are those of so many bits in which something changes.
func fractions(bits int) []uint64 {
	all := uint64(1)<<bits - 1
	out := []uint64{0, all}
	for i := range bits {
		one := uint64(1) << i
		out = append(out, one, all-one, one-1, all-one+1, one|1, one|1<<(bits-1))
	}
	return out
}

// TestFloatsOfEachExponent: in the widths 32 and 64.
func TestFloatsOfEachExponent(t *testing.T) {
	for _, sign := range []uint64{0, 1} {
		for exponent := range uint64(1 << 8) {
			var l []api.Value
			for _, fraction := range fractions(23) {
				l = append(l, f32(sign<<31|exponent<<23|fraction))
				l = append(l, f64(wantWide(l[len(l)-1])))
			}
			checkFloats(t, l)
		}
		for exponent := range uint64(1 << 11) {
			var l []api.Value
			for _, fraction := range fractions(52) {
				l = append(l, f64(sign<<63|exponent<<52|fraction))
			}
			checkFloats(t, l)
		}
	}
}
