package json_test

import (
	"bytes"
	"slices"
	"testing"

	"glossator/api"
	"glossator/json"
)

// inOrder has the pairs of all maps in the order of their keys.
func inOrder(v api.Value) api.Value {
	var l []api.Value
	for _, x := range v.L {
		l = append(l, inOrder(x))
	}
	v.L = l
	if v.K == api.KMap {
		v.L = nil
		for _, place := range wantOrder(l, true) {
			v.L = append(v.L, l[place], l[place+1])
		}
	}
	return v
}

// isAnyTwice tells whether a map within v has a key twice.
func isAnyTwice(v api.Value) bool {
	keys := map[string]bool{}
	for place, x := range v.L {
		if isKey := v.K == api.KMap && place%2 == 0; isKey && keys[x.S] || isAnyTwice(x) {
			return true
		} else if isKey {
			keys[x.S] = true
		}
	}
	return false
}

// checkBack asks Decode for the text of v, at limits that it just needs, and at
// those that are one less.
func checkBack(t *testing.T, v api.Value, o api.Option) {
	t.Helper()
	b, e := json.Encode(v, o)
	if e != api.OK {
		t.Fatalf("Encode(%s, %+v): %v", told(v), o, e)
	}
	want := v
	if o.Sort {
		want = inOrder(v)
	}
	l := api.Limits{Depth: wantDepth(v), Size: len(b), Once: !isAnyTwice(v)}
	checkTaken(t, string(b), l, want)
	checkTaken(t, string(b), most, want)
	if l.Depth > 0 {
		less := api.Limits{Depth: l.Depth - 1, Size: l.Size}
		if _, _, e := json.Decode(b, less); e != api.ErrLimit {
			t.Fatalf("Decode of Encode(%s), %+v: %v", told(v), less, e)
		}
	}
	checkRefused(t, string(b), size(len(b)-1), len(b)-1, api.ErrLimit)
	if isAnyTwice(v) {
		if _, _, e := json.Decode(b, once); e != api.ErrForm {
			t.Fatalf("Decode of Encode(%s), %+v: %v", told(v), once, e)
		}
	}
}

func TestDecodeUndoesEncode(t *testing.T) {
	all := trees()
	c := chance(158)
	for range 3000 {
		all = append(all, c.tree(5))
	}
	for i, v := range all {
		for _, o := range []api.Option{{}, {Indent: 1 + i%8}, {Sort: true}, {Sort: true, Indent: 1 + i%8}} {
			if b, _ := json.Encode(v, o); len(b) <= api.MaxSize {
				checkBack(t, v, o)
			}
		}
	}
}

// TestFloatsThereAndBack: all classes, at many bits.
func TestFloatsThereAndBack(t *testing.T) {
	c := chance(159)
	for range 20000 {
		v := f64(c.word() >> (c.below(3) * c.below(64)))
		if v.N<<1>>53 < 0x7FF {
			checkBack(t, v, api.Option{})
		} else {
			checkEncode(t, v, api.Option{}, "", api.ErrSay)
		}
	}
}

// TestEncodeOfDecode: a text that Decode takes is a tree that Encode writes, and
// which is read again as the same.
func TestEncodeOfDecode(t *testing.T) {
	c := chance(160)
	taken := 0
	for range 20000 {
		s := c.text(4)
		if c.below(2) == 0 {
			s = c.changed(s)
		}
		v, _, e := json.Decode([]byte(s), most)
		if e != api.OK {
			continue
		}
		taken++
		checkBack(t, v, api.Option{})
		checkBack(t, v, api.Option{Sort: true, Indent: 2})
	}
	if taken < 8000 {
		t.Fatalf("only %d of them were taken", taken)
	}
}

// TestSortKeepsPairs: what is sorted is sorted already, and has the same pairs.
func TestSortKeepsPairs(t *testing.T) {
	c := chance(161)
	for range 3000 {
		v := c.tree(4)
		first, _ := json.Encode(v, api.Option{Sort: true})
		second, _ := json.Encode(inOrder(v), api.Option{})
		if !bytes.Equal(first, second) {
			t.Fatalf("Encode(%s): %s, want %s", told(v), first, second)
		}
		back, _, _ := json.Decode(first, most)
		if !same(back, inOrder(v)) || !slices.Equal(leavesOf(back), leavesOf(v)) {
			t.Fatalf("Decode of Encode(%s): %s", told(v), told(back))
		}
	}
}

// leavesOf are all values without others within v, by their texts, sorted.
func leavesOf(v api.Value) []string {
	if v.K != api.KList && v.K != api.KMap {
		return []string{wantLine(v, false)}
	}
	out := []string{}
	for _, x := range v.L {
		out = append(out, leavesOf(x)...)
	}
	slices.Sort(out)
	return out
}

// TestTooManyDigits: a KBig of more digits than are read is written all the
// same.
func TestTooManyDigits(t *testing.T) {
	for _, v := range []api.Value{great(big(512)), greatBelow(big(512)), great("\xFF" + big(511)), list(great(big(500)))} {
		s := wantLine(v, false)
		checkEncode(t, v, api.Option{}, s, api.OK)
		checkRefused(t, s, most, wantDepth(v)-1, api.ErrLimit)
	}
	checkBack(t, great(big(499)), api.Option{})
}
