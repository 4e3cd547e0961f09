package det_test

import (
	"strings"
	"testing"

	"glossator/api"
)

// rising are plain keys of which the items rise: by the first byte that
// differs, whatever their lengths are.
func rising() []api.Value {
	return []api.Value{
		whole(0), whole(10), whole(23), whole(24), whole(100), whole(255), whole(256), whole(1 << 16), whole(1 << 32), whole(maxUint64),
		below(0), below(9), below(255), below(maxUint64),
		raw(""), raw("\x00"), raw("\xFF"), raw("\x00\x00"), raw("b\x00"), raw("b\x01"), raw(strings.Repeat("a", 24)),
		text(""), text("a"), text("b"), text("aa"), text("ab"), text("ba"), text("aaa"), text("\u00FC\u20AC"), text(strings.Repeat("a", 23)), text(strings.Repeat("a", 24)), text(strings.Repeat("a", 300)),
		list(), list(whole(100)), list(below(0)), list(null()), list(whole(1), whole(1)), list(whole(1), whole(2)),
		pairs(), pairs(whole(1), null()), pairs(whole(2), null()), pairs(whole(1), null(), whole(2), null()),
		tag(0, null()), tag(1, whole(5)), tag(1, null()), tag(2, whole(5)), great(big(9)), great(big(10)), great(big(500)), tag(2, raw(big(513))), tag(2, null()), greatBelow(big(9)), tag(4, raw("")), tag(100, null()),
		simple(0), simple(19), {K: api.KBool}, {K: api.KBool, N: 1}, null(), {K: api.KUndef}, simple(32), simple(255),
		f16(0), f16(0x3C00), f16(0x8000), f16(0xFFFF), f32(1), f32(0x3F800001), f32(0xFFFFFFFF), f64(1), f64(0x3FB999999999999A), f64(maxUint64),
	}
}

// mapOf has a value with each key that tells its place.
func mapOf(keys ...api.Value) api.Value {
	v := pairs()
	for i, key := range keys {
		v.L = append(v.L, key, whole(uint64(i)))
	}
	return v
}

// turned has the pairs of a map from the last to the first.
func turned(v api.Value) api.Value {
	out := pairs()
	for i := len(v.L) - 2; i >= 0; i -= 2 {
		out.L = append(out.L, v.L[i], v.L[i+1])
	}
	return out
}

// TestMapsOfAllKeys: they rise, fall, and stand in any order.
func TestMapsOfAllKeys(t *testing.T) {
	want := mapOf(rising()...)
	c := chance(121)
	for _, wrap := range wraps() {
		checkPlain(t, wrap(want), wrap(want))
		checkPlain(t, wrap(turned(want)), wrap(want))
		checkIs(t, item(wrap(turned(want))), false)
		for range 20 {
			checkPlain(t, wrap(c.shuffled(want)), wrap(want))
		}
	}
}

// TestMapsOfTwoKeys: each two of them, in both orders, and each one twice.
func TestMapsOfTwoKeys(t *testing.T) {
	keys := rising()
	for i, a := range keys {
		for _, b := range keys[i+1:] {
			want := mapOf(a, b)
			checkPlain(t, want, want)
			checkPlain(t, turned(want), want)
			checkIs(t, item(turned(want)), false)
		}
		checkRefused(t, mapOf(a, a), api.ErrForm)
		checkIs(t, item(mapOf(a, a)), false)
		checkRefused(t, mapOf(append(keys, a)...), api.ErrForm)
		checkRefused(t, mapOf(append([]api.Value{a}, keys...)...), api.ErrForm)
	}
}

// guises are pairs of trees that are the same value, and differ.
func guises() [][2]api.Value {
	out := [][2]api.Value{
		{f16(0x3C00), f64(0x3FF0000000000000)}, {f16(0x3C00), f32(0x3F800000)}, {f32(0x3F800000), f64(0x3FF0000000000000)}, {f32(1), f64(0x36A0000000000000)}, {f16(0x8000), f64(1 << 63)}, {f16(0x7C00), f32(0x7F800000)}, {f16(0x7E01), f64(0x7FF8040000000000)}, {f32(0x7FC00001), f64(0x7FF8000020000000)},
		{whole(0), tag(2, raw(""))}, {whole(0), tag(2, raw(zeros(40)))}, {below(0), tag(3, raw(""))}, {tag(2, raw("")), tag(2, raw("\x00"))}, {whole(5), tag(2, raw("\x05"))}, {below(5), tag(3, raw("\x00\x05"))}, {whole(maxUint64), tag(2, raw(strings.Repeat("\xFF", 8)))}, {below(maxUint64), tag(3, raw("\x00"+strings.Repeat("\xFF", 8)))},
		{great(big(9)), tag(2, raw("\x00"+big(9)))}, {greatBelow(big(api.MaxBig)), tag(3, raw(zeros(600)+big(api.MaxBig)))}, {tag(2, raw(big(513))), tag(2, raw("\x00"+big(513)))}, {tag(3, raw(big(600))), tag(3, raw(zeros(9)+big(600)))},
		{mapOf(whole(1), text("a")), pairs(text("a"), whole(1), whole(1), whole(0))}, {mapOf(rising()...), turned(mapOf(rising()...))}, {pairs(text("a"), f64(0)), pairs(text("a"), f16(0))}, {pairs(f64(0), null()), pairs(f16(0), null())},
		{tag(2, tag(2, raw("\x05"))), tag(2, whole(5))},
	}
	for _, x := range out {
		out = append(out, [2]api.Value{list(null(), x[0]), list(null(), x[1])}, [2]api.Value{pairs(x[0], x[1]), pairs(x[1], x[0])}, [2]api.Value{tag(5, x[0]), tag(5, x[1])}, [2]api.Value{tag(2, list(x[0])), tag(2, list(x[1]))})
	}
	return out
}

// TestMapsOfSameKeys: those that are the same only once they are plain, side by
// side and with others between.
func TestMapsOfSameKeys(t *testing.T) {
	for _, x := range guises() {
		a, b := x[0], x[1]
		for _, wrap := range wraps() {
			checkRefused(t, wrap(mapOf(a, b)), api.ErrForm)
			checkRefused(t, wrap(mapOf(b, whole(77), a)), api.ErrForm)
			checkRefused(t, mapOf(wrap(a), wrap(b)), api.ErrForm)
			checkRefused(t, mapOf(text("x"), wrap(a), text("y"), wrap(b), text("z")), api.ErrForm)
		}
		checkIs(t, item(mapOf(a, b)), false)
		// As values, and in two maps, they may be the same.
		checkAsWanted(t, pairs(text("x"), a, text("y"), b))
		checkAsWanted(t, pairs(a, b))
		checkAsWanted(t, list(mapOf(a), mapOf(b)))
		checkAsWanted(t, pairs(mapOf(a), mapOf(b)))
		checkAsWanted(t, pairs(a, mapOf(b, text("x"))))
	}
}

// TestMapsByPlainKeys: the order is that of the plain keys, not that of the keys
// as they stand, and it is not that of the values.
func TestMapsByPlainKeys(t *testing.T) {
	for _, x := range []struct{ v, want api.Value }{
		{pairs(f64(0x3FF0000000000000), null(), f32(0x3F800001), null()), pairs(f16(0x3C00), null(), f32(0x3F800001), null())},
		{pairs(f32(0x3F800001), null(), f64(0x3FF0000000000000), null()), pairs(f16(0x3C00), null(), f32(0x3F800001), null())},
		{pairs(text("a"), null(), tag(2, raw("\x05")), null()), pairs(whole(5), null(), text("a"), null())},
		{pairs(tag(2, raw("\x05")), null(), whole(4), null(), tag(3, raw("\x05")), whole(1)), pairs(whole(4), null(), whole(5), null(), below(5), whole(1))},
		{pairs(tag(2, raw("\x00"+big(9))), whole(1), tag(2, raw(zeros(2)+big(9)+"\x00")), whole(2), great("\x01"+big(8)), whole(3)), pairs(great(big(9)), whole(1), great("\x01"+big(8)), whole(3), great(big(9)+"\x00"), whole(2))},
		{pairs(mapOf(text("b"), text("a")), null(), mapOf(text("a"), text("c")), null()), pairs(pairs(text("a"), whole(0), text("c"), whole(1)), null(), pairs(text("a"), whole(1), text("b"), whole(0)), null())},
		{pairs(text("b"), whole(1), text("a"), whole(2)), pairs(text("a"), whole(2), text("b"), whole(1))},
		{pairs(text("b"), pairs(whole(2), whole(3), whole(1), whole(9)), text("a"), f64(0)), pairs(text("a"), f16(0), text("b"), pairs(whole(1), whole(9), whole(2), whole(3)))},
		{pairs(pairs(whole(2), pairs(whole(4), null(), whole(3), null()), whole(1), null()), null()), pairs(pairs(whole(1), null(), whole(2), pairs(whole(3), null(), whole(4), null())), null())},
		{pairs(list(pairs(whole(2), null(), whole(1), null())), null(), tag(1, f64(0)), null(), list(f64(0)), null()), pairs(list(pairs(whole(1), null(), whole(2), null())), null(), list(f16(0)), null(), tag(1, f16(0)), null())},
		{pairs(whole(2), text("a"), whole(1), text("a"), whole(0), text("a")), pairs(whole(0), text("a"), whole(1), text("a"), whole(2), text("a"))},
	} {
		for _, wrap := range wraps() {
			if want, ok := wantPlain(wrap(x.v)); !ok || !same(want, wrap(x.want)) {
				t.Fatalf("wantPlain(%s): %s", told(wrap(x.v)), told(want))
			}
			checkPlain(t, wrap(x.v), wrap(x.want))
		}
		checkIs(t, item(x.v), false)
	}
}
