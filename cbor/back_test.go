package cbor_test

import (
	"testing"

	"glossator/api"
	"glossator/cbor"
)

// checkBack asks Decode for the item of v, at limits that it just needs, and at
// those that are one less.
func checkBack(t *testing.T, v api.Value, open bool) {
	t.Helper()
	b, e := cbor.Encode(v, api.Option{Open: open})
	if e != api.OK {
		t.Fatalf("Encode(%s): %v", told(v), e)
	}
	l := api.Limits{Depth: wantDepth(v), Size: len(b)}
	checkTaken(t, b, l, v)
	checkTaken(t, b, most, v)
	if l.Depth > 0 {
		less := api.Limits{Depth: l.Depth - 1, Size: l.Size}
		if _, _, e := cbor.Decode(b, less); e != api.ErrLimit {
			t.Fatalf("Decode of Encode(%s), %+v: %v", told(v), less, e)
		}
	}
	less := api.Limits{Depth: l.Depth, Size: l.Size - 1}
	if _, _, e := cbor.Decode(b, less); e != api.ErrLimit {
		t.Fatalf("Decode of Encode(%s), %+v: %v", told(v), less, e)
	}
}

func TestDecodeUndoesEncode(t *testing.T) {
	all := trees()
	c := chance(112)
	for range 3000 {
		all = append(all, c.tree(6))
	}
	for _, v := range all {
		checkBack(t, v, false)
		checkBack(t, v, true)
	}
}

// TestEncodeOfDecode: bytes that Decode takes are a tree that Encode writes, and
// which is read again as the same.
func TestEncodeOfDecode(t *testing.T) {
	c := chance(113)
	told := 0
	for range 60000 {
		b := c.item(3)
		v, _, e := cbor.Decode(b, most)
		if e == api.OK {
			checkBack(t, v, false)
			checkBack(t, v, true)
			told++
		}
	}
	if told < 10000 {
		t.Fatalf("only %d of them were taken", told)
	}
}
