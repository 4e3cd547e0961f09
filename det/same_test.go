package det_test

import (
	"bytes"
	"testing"

	"glossator/api"
	"glossator/det"
)

// checkSame asks Same for two trees in both orders, and whether their Encode is
// the same just then.
func checkSame(t *testing.T, a, b api.Value, want bool) {
	t.Helper()
	beforeA, beforeB := copied(a), copied(b)
	if det.Same(a, b) != want || det.Same(b, a) != want {
		t.Fatalf("Same(%s, %s): %v, %v, want %v", told(a), told(b), det.Same(a, b), det.Same(b, a), want)
	}
	itemA, eA := det.Encode(a)
	itemB, eB := det.Encode(b)
	if (eA == api.OK && eB == api.OK && bytes.Equal(itemA, itemB)) != want {
		t.Fatalf("Encode(%s): % .60X, %v; Encode(%s): % .60X, %v; the same value: %v", told(a), itemA, eA, told(b), itemB, eB, want)
	}
	if !same(a, beforeA) || !same(b, beforeB) {
		t.Fatalf("Same changed %s or %s", told(beforeA), told(beforeB))
	}
}

// TestSameOfGuises: one value in two trees of each sort.
func TestSameOfGuises(t *testing.T) {
	for _, x := range guises() {
		for _, wrap := range wraps() {
			if _, ok := wantPlain(wrap(x[0])); ok {
				checkSame(t, wrap(x[0]), wrap(x[1]), true)
				checkSame(t, wrap(x[0]), list(wrap(x[1])), false)
				checkSame(t, list(x[0], wrap(x[1])), list(x[1], wrap(x[0])), true)
			}
		}
	}
}

// TestSameOfOthers: no two of them are the same value, at the top or within.
func TestSameOfOthers(t *testing.T) {
	all := append(rising(),
		f16(1), f32(0x80000001), f64(2), f16(0x7C00), f16(0xFC00), f16(0x7E00), f16(0x7E01), f32(0x7FC00001), f64(0x7FF8000000000001), // bits of a Nan count
		below(1), whole(1), f16(0x4000), text("0"), text("1"), raw("1"), raw("\x01"), tag(1, raw("\x01")), list(whole(1)), pairs(whole(1), whole(1)), pairs(whole(2), whole(1)), list(whole(2), whole(1)),
		tag(3, raw(big(513))), tag(2, raw(big(514))), tag(2, list()), tag(3, list()), simple(1), pairs(text("a"), text("b")), pairs(text("b"), text("a")), list(list()), list(pairs()),
	)
	for i, a := range all {
		for j, b := range all {
			checkSame(t, a, b, i == j)
			checkSame(t, list(null(), a, null()), list(null(), b, null()), i == j)
			checkSame(t, pairs(a, null()), pairs(b, null()), i == j)
			checkSame(t, pairs(null(), tag(7, a)), pairs(null(), tag(7, b)), i == j)
		}
	}
}

// TestSameWithoutPlainTree: one or both have none.
func TestSameWithoutPlainTree(t *testing.T) {
	var none []api.Value
	for _, l := range [][]api.Value{wrongTrees(), longTrees(), extTrees(), twiceTrees()} {
		none = append(none, l...)
	}
	for _, a := range none {
		checkSame(t, a, a, false)
		checkSame(t, a, copied(a), false)
		for _, b := range []api.Value{null(), list(), a, list(a), f64(0), pairs(null(), null()), none[0], ext(""), mapOf(null(), null())} {
			checkSame(t, a, b, false)
		}
	}
}

// TestSameOfMany: trees, others of the same value, and such that differ in one
// place.
func TestSameOfMany(t *testing.T) {
	c := chance(124)
	counts := map[bool]int{}
	for range 20000 {
		a := c.tree(4)
		p, ok := wantPlain(a)
		checkAsWanted(t, a)
		b := c.guise(a)
		checkAsWanted(t, b)
		checkSame(t, a, b, ok)
		x := c.changed(b)
		q, alsoOk := wantPlain(x)
		checkSame(t, a, x, ok && alsoOk && same(p, q))
		counts[ok && alsoOk && !same(p, q)]++
	}
	if counts[true] < 5000 {
		t.Fatalf("only %d of them differed", counts[true])
	}
}

// TestSameOfAll: each two of many small trees.
func TestSameOfAll(t *testing.T) {
	c := chance(125)
	var all []api.Value
	for range 150 {
		v := c.tree(2)
		all = append(all, v, c.guise(v), c.changed(v))
	}
	for _, a := range all {
		p, ok := wantPlain(a)
		for _, b := range all {
			q, alsoOk := wantPlain(b)
			checkSame(t, a, b, ok && alsoOk && same(p, q))
		}
	}
}
