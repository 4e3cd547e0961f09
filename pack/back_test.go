package pack_test

import (
	"testing"

	"glossator/api"
	"glossator/pack"
)

// checkBack asks Decode for the item of v, at limits that it just needs, and at
// those that are one less.
func checkBack(t *testing.T, v api.Value) {
	t.Helper()
	b, e := pack.Encode(v)
	if e != api.OK {
		t.Fatalf("Encode(%s): %v", told(v), e)
	}
	l := api.Limits{Depth: wantDepth(v), Size: len(b)}
	checkTaken(t, b, l, v)
	checkTaken(t, b, most, v)
	if l.Depth > 0 {
		less := api.Limits{Depth: l.Depth - 1, Size: l.Size}
		if _, _, e := pack.Decode(b, less); e != api.ErrLimit {
			t.Fatalf("Decode of Encode(%s), %+v: %v", told(v), less, e)
		}
	}
	less := api.Limits{Depth: l.Depth, Size: l.Size - 1}
	if _, _, e := pack.Decode(b, less); e != api.ErrLimit {
		t.Fatalf("Decode of Encode(%s), %+v: %v", told(v), less, e)
	}
}

func TestDecodeUndoesEncode(t *testing.T) {
	all := trees()
	c := chance(132)
	for range 3000 {
		all = append(all, c.tree(6))
	}
	for _, v := range all {
		checkBack(t, v)
	}
}

// TestEncodeOfDecode: bytes that Decode takes are a tree that Encode writes, in
// no more bytes, and which is read again as the same.
func TestEncodeOfDecode(t *testing.T) {
	c := chance(133)
	taken := 0
	for range 60000 {
		b := c.item(3)
		v, _, e := pack.Decode(b, most)
		if e != api.OK {
			continue
		}
		taken++
		checkBack(t, v)
		if again, _ := pack.Encode(v); len(again) > len(b) {
			t.Fatalf("Encode of Decode(% X): % X", b, again)
		}
	}
	if taken < 10000 {
		t.Fatalf("only %d of them were taken", taken)
	}
}
