package base_test

import (
	"bytes"
	"math"
	"testing"

	"glossator/api"
	"glossator/base"
)

func TestEncodeExamples(t *testing.T) {
	for _, x := range []struct {
		kind int
		b    string
		want string
	}{
		{base.B64, "\x01", "AQ=="},
		{base.Hex, "", ""}, {base.B64, "", ""}, {base.U64, "", ""}, {base.B32, "", ""},
		{base.Hex, "\x00\x0F\xF0\x9a\xAB\xCD\xEF", "000ff09aabcdef"},
		{base.B64, "f", "Zg=="}, {base.B64, "fo", "Zm8="}, {base.B64, "foo", "Zm9v"}, {base.B64, "foobar", "Zm9vYmFy"},
		{base.U64, "f", "Zg"}, {base.U64, "fo", "Zm8"}, {base.U64, "foo", "Zm9v"},
		{base.B64, "\xFB\xFF\xBE", "+/++"}, {base.U64, "\xFB\xFF\xBE", "-_--"},
		{base.B32, "f", "MY======"}, {base.B32, "fo", "MZXQ===="}, {base.B32, "foo", "MZXW6==="}, {base.B32, "foob", "MZXW6YQ="},
		{base.B32, "fooba", "MZXW6YTB"}, {base.B32, "foobar", "MZXW6YTBOI======"},
	} {
		if got := encode(t, x.kind, []byte(x.b)); got != x.want {
			t.Errorf("Encode of kind %d, %q: %q, want %q", x.kind, x.b, got, x.want)
		}
	}
}

func TestEncodeEachLength(t *testing.T) {
	c := chance(1)
	for _, kind := range kinds {
		for n := range 100 {
			for range 20 {
				b := c.bytes(n)
				if got, want := encode(t, kind, b), byLibrary(kind, b); got != want {
					t.Fatalf("Encode of kind %d, %X: %q, want %q", kind, b, got, want)
				}
			}
		}
	}
}

func TestEncodeEachByte(t *testing.T) {
	for _, kind := range kinds {
		for n := 1; n <= 6; n++ {
			for at := range n {
				for x := range 256 {
					b := make([]byte, n)
					b[at] = byte(x)
					if got, want := encode(t, kind, b), byLibrary(kind, b); got != want {
						t.Fatalf("Encode of kind %d, %X: %q, want %q", kind, b, got, want)
					}
				}
			}
		}
	}
}

func TestEncodeLong(t *testing.T) {
	c := chance(2)
	for _, kind := range kinds {
		for n := api.MaxSize - 1; n <= api.MaxSize+5; n++ {
			b := c.bytes(n)
			if got := encode(t, kind, b); got != byLibrary(kind, b) {
				t.Fatalf("Encode of kind %d, %d bytes, is wrong", kind, n)
			}
		}
	}
}

func TestEncodeNoKind(t *testing.T) {
	for _, kind := range noKinds {
		for _, b := range [][]byte{nil, {}, {1}, []byte("many bytes")} {
			if got, e := base.Encode(kind, b); got != "" || e != api.ErrArg {
				t.Errorf("Encode of kind %d, %X: %q, %v", kind, b, got, e)
			}
		}
	}
}

func TestEncodeLeavesBytes(t *testing.T) {
	for _, kind := range kinds {
		b := []byte{1, 2, 0xFF, 4, 5, 6, 7}
		got := encode(t, kind, b[:5])
		if !bytes.Equal(b, []byte{1, 2, 0xFF, 4, 5, 6, 7}) {
			t.Errorf("Encode of kind %d changed its bytes: %X", kind, b)
		}
		clear(b)
		if want := byLibrary(kind, []byte{1, 2, 0xFF, 4, 5}); got != want {
			t.Errorf("Encode of kind %d kept its bytes: %q, want %q", kind, got, want)
		}
	}
}

func TestLenIsThatOfLetters(t *testing.T) {
	for _, kind := range kinds {
		for n := range 300 {
			if got, want := base.Len(kind, n), len(byLibrary(kind, make([]byte, n))); got != want {
				t.Errorf("Len of kind %d, %d: %d, want %d", kind, n, got, want)
			}
		}
	}
}

func TestLenLarge(t *testing.T) {
	const size = api.MaxSize // one more than a multiple of 3 and of 5
	for _, x := range []struct{ kind, n, want int }{
		{base.Hex, size, 2 << 20}, {base.Hex, size - 1, 2<<20 - 2},
		{base.B64, size, (size + 2) / 3 * 4}, {base.B64, size - 1, (size - 1) / 3 * 4}, {base.B64, size - 2, (size - 1) / 3 * 4},
		{base.U64, size, (size-1)/3*4 + 2}, {base.U64, size - 1, (size - 1) / 3 * 4}, {base.U64, size - 2, (size-1)/3*4 - 1},
		{base.B32, size, (size + 4) / 5 * 8}, {base.B32, size - 1, (size - 1) / 5 * 8}, {base.B32, size - 2, (size - 1) / 5 * 8},
	} {
		if got := base.Len(x.kind, x.n); got != x.want {
			t.Errorf("Len of kind %d, %d: %d, want %d", x.kind, x.n, got, x.want)
		}
		if got := len(encode(t, x.kind, make([]byte, x.n))); got != x.want {
			t.Errorf("Encode of kind %d, %d bytes: %d letters, want %d", x.kind, x.n, got, x.want)
		}
	}
}

func TestLenOfNone(t *testing.T) {
	for _, kind := range kinds {
		for _, n := range []int{-1, -2, -3, -8, -1000, math.MinInt, math.MinInt + 1, api.MaxSize + 1, api.MaxSize + 2, 2 * api.MaxSize,
			1 << 31, 1 << 32, 1<<32 + 1, 1 << 61, math.MaxInt, math.MaxInt - 1} {
			if got := base.Len(kind, n); got != 0 {
				t.Errorf("Len of kind %d, %d: %d", kind, n, got)
			}
		}
	}
	for _, kind := range noKinds {
		for _, n := range []int{-1, 0, 1, 2, 3, 5, 8, api.MaxSize, api.MaxSize + 1, math.MinInt, math.MaxInt} {
			if got := base.Len(kind, n); got != 0 {
				t.Errorf("Len of kind %d, %d: %d", kind, n, got)
			}
		}
	}
}
