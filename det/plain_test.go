package det_test

import (
	"math"
	"strings"
	"testing"

	"glossator/api"
	"glossator/det"
)

// plainOfEach are plain trees of each kind that CBOR says.
func plainOfEach() []api.Value {
	out := []api.Value{
		null(), {K: api.KBool}, {K: api.KBool, N: 1}, {K: api.KUndef},
		simple(0), simple(19), simple(32), simple(255),
		raw(""), raw("\x00"), raw(big(8)), raw(big(9)), raw(zeros(20)), raw(strings.Repeat("\x80", 3000)),
		text(""), text("a\x00"), text("\u00FC\u20AC\U0001F600"), text(strings.Repeat("\u20AC", 1000)),
		great(big(9)), great(big(10)), great(strings.Repeat("\xFF", 9)), great(big(api.MaxBig - 1)), great(big(api.MaxBig)),
		greatBelow(big(9)), greatBelow(strings.Repeat("\xFF", api.MaxBig)),
		f16(0), f16(0x8000), f16(1), f16(0x3C00), f16(0x7C00), f16(0xFC00), f16(0x7E00), f16(0xFFFF),
		f32(1), f32(0x47800000), f32(0x7F7FFFFF), f32(0x7FC00001), f32(0x3F800001),
		f64(1), f64(0x3FB999999999999A), f64(0x7FEFFFFFFFFFFFFF), f64(0xFFF8000000000001),
		list(), list(null()), list(text("b"), text("a"), whole(2), whole(1)), list(list(), list(list())),
		pairs(), pairs(null(), null()), pairs(whole(1), text("b"), whole(2), text("a")),
		tag(0, text("a")), tag(1, null()), tag(2, whole(5)), tag(3, text("123456789")), tag(2, tag(3, list())), tag(maxUint64, list()),
		tag(2, raw(big(api.MaxBig+1))), tag(3, raw(big(2000))), tag(1, raw("\x00")), tag(4, raw(big(9))),
	}
	for _, n := range []uint64{0, 1, 23, 24, 255, 256, 1<<16 - 1, 1 << 16, 1<<32 - 1, 1 << 32, 1 << 63, maxUint64} {
		out = append(out, whole(n), below(n))
	}
	return out
}

// TestPlainStays: what is plain stays as it is, wherever it stands.
func TestPlainStays(t *testing.T) {
	for _, v := range plainOfEach() {
		for _, wrap := range wraps() {
			checkPlain(t, wrap(v), wrap(v))
			checkAsWanted(t, wrap(v))
		}
	}
	checkPlain(t, api.Value{}, null())
	checkPlain(t, api.Value{K: api.KList, L: []api.Value{}}, list())
	checkPlain(t, api.Value{K: api.KMap, L: []api.Value{}}, pairs())
	checkPlain(t, api.Value{K: api.KInt, N: 1, L: []api.Value{}}, whole(1))
}

// TestPlainAtLimits: at them all is as below them.
func TestPlainAtLimits(t *testing.T) {
	one := f64(0x3FF0000000000000)
	checkPlain(t, within(api.MaxDepth, one), within(api.MaxDepth, f16(0x3C00)))
	checkPlain(t, within(api.MaxDepth-1, tag(2, raw("\x05"))), within(api.MaxDepth-1, whole(5)))
	checkPlain(t, within(api.MaxDepth-1, tag(3, raw("\x00"+big(9)))), within(api.MaxDepth-1, greatBelow(big(9))))
	checkPlain(t, within(api.MaxDepth-1, pairs(whole(2), null(), whole(1), null())), within(api.MaxDepth-1, pairs(whole(1), null(), whole(2), null())))
	v, want := null(), null()
	for range api.MaxDepth { // keys within keys
		v, want = pairs(v, one), pairs(want, f16(0x3C00))
	}
	checkPlain(t, v, want)
	checkRefused(t, pairs(v, null()), api.ErrLong)

	checkPlain(t, list(nulls(api.MaxNodes-1)...), list(nulls(api.MaxNodes-1)...))
	checkPlain(t, list(append(nulls(api.MaxNodes-3), tag(2, raw("\x00")))...), list(append(nulls(api.MaxNodes-3), whole(0))...))
	checkRefused(t, list(append(nulls(api.MaxNodes-2), tag(2, raw("\x00")))...), api.ErrLong)
	most, wanted := pairs(), pairs()
	for n := range uint64(api.MaxNodes/2 - 1) {
		most.L = append(most.L, whole(api.MaxNodes-n), one)
		wanted.L = append(wanted.L, whole(n+api.MaxNodes/2+2), f16(0x3C00))
	}
	checkPlain(t, most, wanted)
}

// TestPlainOfMuch: an item may have more bytes than are decoded.
func TestPlainOfMuch(t *testing.T) {
	for _, n := range []int{api.MaxSize - 6, api.MaxSize - 5, api.MaxSize - 4, 3 * api.MaxSize} {
		v := list(raw(strings.Repeat("a", n)))
		checkPlain(t, v, v)
	}
	v := tag(2, raw(zeros(api.MaxSize)+big(2*api.MaxSize)))
	checkPlain(t, v, tag(2, raw(big(2*api.MaxSize))))
	checkPlain(t, tag(3, raw(zeros(2*api.MaxSize))), below(0))
	checkPlain(t, tag(3, raw(zeros(2*api.MaxSize)+"\x02\x01")), below(0x201))
	checkPlain(t, tag(2, raw(zeros(2*api.MaxSize)+big(9))), great(big(9)))
	long := strings.Repeat("a", api.MaxSize)
	checkPlain(t, pairs(raw(long+"b"), null(), raw(long+"a"), null()), pairs(raw(long+"a"), null(), raw(long+"b"), null()))
}

// wrongTrees are those of which value.Check errs, with ErrValue.
func wrongTrees() []api.Value {
	return []api.Value{
		{K: -1}, {K: api.KEnd}, {K: math.MaxInt}, {K: api.KNull, N: 1}, {K: api.KNull, L: nulls(1)}, {K: api.KBool, N: 2}, {K: api.KBool, Neg: true}, {K: api.KUndef, S: "a"},
		simple(20), simple(24), simple(31), simple(256), {K: api.KInt, S: "a"}, {K: api.KInt, L: nulls(1)},
		great(""), great(big(8)), great("\x00" + big(9)), great(big(api.MaxBig + 1)), {K: api.KBig, S: big(9), N: 1},
		f16(1 << 16), f32(1 << 32), {K: api.KF64, Neg: true}, {K: api.KF16, S: "a"}, {K: api.KBytes, N: 1}, {K: api.KBytes, Neg: true},
		text("\xFF"), text("a\xC3"), text("\xED\xA0\x80"), {K: api.KText, Neg: true}, {K: api.KList, N: 1}, {K: api.KList, S: "a"}, {K: api.KMap, Neg: true},
		pairs(null()), pairs(null(), null(), null()), tag(1), tag(1, null(), null()), {K: api.KTag, S: "a", L: nulls(1)},
		tag(2, raw(big(9))), tag(3, raw(big(9))), tag(2, raw(big(api.MaxBig))), tag(3, raw(strings.Repeat("\xFF", api.MaxBig))),
		tag(2, raw("\x01"), null()), tag(2, api.Value{K: api.KBytes, Neg: true, S: "\x01"}), tag(2, api.Value{K: api.KBytes, S: "\x01", L: nulls(1)}),
		{K: api.KExt, N: 256}, {K: api.KExt, Neg: true}, {K: api.KExt, L: nulls(1)},
	}
}

// longTrees are those of which value.Check errs with ErrLong.
func longTrees() []api.Value {
	return []api.Value{
		within(api.MaxDepth+1, null()), within(api.MaxDepth, great(big(9))), within(api.MaxDepth, tag(2, raw("\x01"))), within(1000, list()),
		list(nulls(api.MaxNodes)...), pairs(nulls(api.MaxNodes)...), pairs(nulls(api.MaxNodes + 1)...), tag(1, list(nulls(api.MaxNodes-1)...)),
	}
}

// extTrees have a KExt within.
func extTrees() []api.Value {
	return []api.Value{
		ext(""), ext("abc"), {K: api.KExt}, {K: api.KExt, N: 255, S: big(9)},
		list(ext("")), list(null(), ext("a"), null()), tag(1, ext("")), tag(2, ext(big(9))), pairs(ext(""), null()), pairs(null(), ext("")), pairs(tag(1, list(ext(""))), null()), within(20, pairs(null(), ext(""))),
	}
}

// twiceTrees have a map with two keys of the same item.
func twiceTrees() []api.Value {
	two := func(a, b api.Value) api.Value { return pairs(a, null(), b, null()) }
	return []api.Value{
		two(null(), null()), two(whole(1), whole(1)), two(text(""), text("")), two(list(), list()), two(pairs(), pairs()), pairs(whole(1), whole(2), whole(3), whole(4), whole(1), whole(2)),
		pairs(text("b"), null(), text("a"), null(), text("b"), whole(1)), list(two(null(), null())), pairs(null(), two(null(), null())), pairs(two(null(), null()), null()), tag(2, two(raw(""), raw(""))),
		two(f16(0x3C00), f64(0x3FF0000000000000)), two(f32(0), f64(0)), two(whole(5), tag(2, raw("\x05"))), two(tag(3, raw("\x00")), tag(3, raw(""))), two(great(big(9)), tag(2, raw("\x00"+big(9)))),
		two(tag(2, raw("\x00"+big(600))), tag(2, raw(big(600)))),
		two(pairs(whole(1), null(), whole(2), null()), pairs(whole(2), null(), whole(1), null())), two(list(f64(0)), list(f16(0))), two(tag(2, tag(2, raw("\x01"))), tag(2, whole(1))),
	}
}

// TestRefusedAlone: at the top, deep within, within a key and within a tag.
func TestRefusedAlone(t *testing.T) {
	for _, x := range []struct {
		trees []api.Value
		want  api.Errno
	}{{wrongTrees(), api.ErrValue}, {longTrees(), api.ErrLong}, {extTrees(), api.ErrSay}, {twiceTrees(), api.ErrForm}} {
		for _, v := range x.trees {
			for _, wrap := range wraps() {
				checkRefused(t, wrap(v), x.want)
			}
			checkRefused(t, pairs(null(), null(), v, null()), x.want)
			checkRefused(t, pairs(whole(1), null(), null(), null(), whole(2), v), x.want)
		}
	}
}

// togethers put two values within one, each ahead of the other and behind.
func togethers(a, b api.Value) []api.Value {
	return []api.Value{
		list(a, b), list(b, a), list(null(), b, null(), a), pairs(a, b), pairs(b, a), pairs(null(), a, whole(1), b), pairs(a, null(), b, null()), pairs(whole(1), null(), whole(1), list(b, a)),
		list(pairs(a, null()), within(9, b)), list(within(9, pairs(null(), b)), tag(1, a)), list(tag(2, list(b)), a), tag(1, list(within(5, a), within(5, b))), pairs(pairs(b, a), pairs(a, b)),
	}
}

// TestRefusedTogether: of two that apply the first one that the document names.
func TestRefusedTogether(t *testing.T) {
	twice := pairs(whole(1), null(), whole(1), null())
	for _, v := range extTrees() {
		for _, x := range append(togethers(v, twice), pairs(v, null(), v, null()), pairs(v, v, v, v), pairs(null(), v, null(), v)) {
			checkRefused(t, x, api.ErrSay)
		}
		for _, wrong := range wrongTrees() {
			for _, x := range togethers(v, wrong) {
				checkRefused(t, x, api.ErrValue)
			}
		}
	}
	for _, v := range twiceTrees() {
		for _, x := range togethers(v, ext("")) {
			checkRefused(t, x, api.ErrSay)
		}
		for _, wrong := range wrongTrees() {
			for _, x := range togethers(v, wrong) {
				checkRefused(t, x, api.ErrValue)
			}
		}
	}
	for _, long := range longTrees() {
		for _, v := range []api.Value{ext(""), twice, {K: -1}, list(ext(""), twice, text("\xFF"))} {
			for _, x := range togethers(v, long) {
				checkRefused(t, x, api.ErrLong)
			}
		}
	}
	for _, v := range []api.Value{list(twice, api.Value{K: -1}, ext("")), list(ext(""), twice, text("\xFF")), pairs(ext(""), twice, ext(""))} {
		checkRefused(t, v, api.ErrValue)
	}
}

// TestRefusedMany: as many refusals as there can be, and the one that goes
// first behind them.
func TestRefusedMany(t *testing.T) {
	twice := within(50, pairs(null(), null(), null(), null()))
	var l []api.Value
	for range (api.MaxNodes - 10) / 55 {
		l = append(l, twice)
	}
	checkRefused(t, list(l...), api.ErrForm)
	checkRefused(t, list(append(l, within(63, ext("")))...), api.ErrLong)
	checkRefused(t, list(append(l[1:], within(40, ext("")))...), api.ErrSay)
}

// TestPlainIsNewMemory: nothing that is done to an answer is seen in the tree,
// nor in another answer, nor elsewhere in this one.
func TestPlainIsNewMemory(t *testing.T) {
	shared := list(null(), f64(0))
	v := list(shared, shared, pairs(text("b"), shared, text("a"), shared, shared, pairs()), tag(2, shared), tag(2, raw("\x00"+big(600))), tag(3, raw(big(600))), list())
	before := copied(v)
	want, _ := wantPlain(v)
	first, _ := det.Plain(v)
	second, _ := det.Plain(v)
	for _, got := range []api.Value{first, second} {
		if !same(got, want) {
			t.Fatalf("Plain(%s): %s", told(v), told(got))
		}
		checkLists(t, got)
		if !same(v, before) {
			t.Fatalf("Plain(%s): the answer's lists are the tree's", told(before))
		}
	}
	b, _ := det.Encode(v)
	for i := range b {
		b[i] = 0xFF
	}
	if again, _ := det.Encode(v); string(again) != string(item(want)) {
		t.Fatalf("Encode(%s): changed by what was done to another answer", told(v))
	}
}

// checkLists writes to all places of all lists within v, and asks for each to be
// written once.
func checkLists(t *testing.T, v api.Value) {
	t.Helper()
	for i := range v.L {
		checkLists(t, v.L[i])
		if v.L[i].K == -1 {
			t.Fatal("two lists of an answer are the same memory")
		}
		v.L[i].K = -1
	}
	if cap(v.L) > len(v.L) {
		_ = append(v.L, api.Value{K: -1})
	}
}
