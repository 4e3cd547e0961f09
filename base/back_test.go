package base_test

import (
	"bytes"
	"testing"

	"glossator/api"
	"glossator/base"
)

// checkBack asks Decode for the bytes whose letters Encode told.
func checkBack(t *testing.T, kind int, b []byte) {
	t.Helper()
	s := encode(t, kind, b)
	got, n, e := base.Decode(kind, s)
	if !bytes.Equal(got, b) || n != len(s) || e != api.OK {
		t.Fatalf("kind %d, %d bytes %.20X: there and back %.20X, %d, %v", kind, len(b), b, got, n, e)
	}
	if len(b) <= api.MaxSize && len(s) != base.Len(kind, len(b)) {
		t.Fatalf("kind %d, %d bytes: %d letters, Len tells %d", kind, len(b), len(s), base.Len(kind, len(b)))
	}
}

func TestDecodeUndoesEncode(t *testing.T) {
	c := chance(6)
	for _, kind := range kinds {
		checkBack(t, kind, nil)
		for a := range 256 {
			checkBack(t, kind, []byte{byte(a)})
		}
		for n := range 80 {
			for range 30 {
				checkBack(t, kind, c.bytes(n))
			}
		}
		for n := api.MaxSize - 1; n <= api.MaxSize+5; n++ {
			checkBack(t, kind, c.bytes(n))
		}
	}
}

func TestEncodeUndoesDecode(t *testing.T) {
	c := chance(7)
	told := 0
	for _, kind := range kinds {
		// The first letters, for bits that fill up, and the last one.
		some := signs[kind][:10] + signs[kind][len(signs[kind])-1:] + "=="
		for range 100000 {
			s := make([]byte, c.next(10))
			for i := range s {
				s[i] = some[c.next(len(some))]
			}
			b, n, e := base.Decode(kind, string(s))
			if e != api.OK {
				continue
			}
			told++
			if back := encode(t, kind, b); back != string(s) || n != len(s) {
				t.Fatalf("kind %d, %q: there and back %q, %d", kind, s, back, n)
			}
		}
	}
	if told < 10000 {
		t.Fatalf("only %d texts were right", told)
	}
}
