package value_test

import (
	"testing"

	"glossator/api"
)

func TestEqualOfSame(t *testing.T) {
	for _, v := range rightOfEach() {
		checkEqual(t, v, v, true)
		checkEqual(t, v, copied(v), true)
		for _, wrap := range wraps() {
			checkEqual(t, wrap(v), wrap(copied(v)), true)
			checkEqual(t, within(9, wrap(v)), within(9, wrap(copied(v))), true)
		}
		if len(v.L) == 0 {
			x := v
			x.L = []api.Value{} // the same as nil
			checkEqual(t, v, x, true)
			checkEqual(t, list(v), list(x), true)
		}
	}
	checkEqual(t, api.Value{}, api.Value{}, true)
	// Bits of a Nan are bits.
	for _, nan := range []uint64{0x7FF8000000000000, 0x7FF0000000000001, maxUint64} {
		checkEqual(t, api.Value{K: api.KF64, N: nan}, api.Value{K: api.KF64, N: nan}, true)
	}
}

// TestEqualOfFields: one field is another's.
func TestEqualOfFields(t *testing.T) {
	for _, v := range rightOfEach() {
		var others []api.Value
		change := func(f func(x *api.Value)) {
			x := copied(v)
			f(&x)
			others = append(others, x)
		}
		change(func(x *api.Value) { x.K++ })
		change(func(x *api.Value) { x.K-- })
		change(func(x *api.Value) { x.Neg = !x.Neg })
		change(func(x *api.Value) { x.N ^= 1 })
		change(func(x *api.Value) { x.N ^= 1 << 32 })
		change(func(x *api.Value) { x.N ^= 1 << 63 })
		change(func(x *api.Value) { x.S += "\x00" })
		change(func(x *api.Value) { x.S = "a" + x.S })
		change(func(x *api.Value) { x.L = append(x.L, null()) })
		change(func(x *api.Value) { x.L = append(nulls(1), x.L...) })
		if v.S != "" {
			change(func(x *api.Value) { x.S = x.S[1:] })
			change(func(x *api.Value) { x.S = x.S[:len(x.S)-1] })
			change(func(x *api.Value) { x.S = string(x.S[0]^1) + x.S[1:] })
		}
		if len(v.L) > 0 {
			change(func(x *api.Value) { x.L = x.L[1:] })
			change(func(x *api.Value) { x.L = x.L[:len(x.L)-1] })
			change(func(x *api.Value) { x.L[0].K++ })
			change(func(x *api.Value) { x.L[len(x.L)-1].N++ })
		}
		for _, x := range others {
			want := same(v, x) // of a list of nulls one ahead is as one behind
			checkEqual(t, v, x, want)
			for _, wrap := range wraps() {
				checkEqual(t, wrap(v), wrap(x), want)
				checkEqual(t, within(9, wrap(v)), within(9, wrap(x)), want)
			}
		}
	}
}

// TestEqualOfNumbers: the same number in another kind is another value.
func TestEqualOfNumbers(t *testing.T) {
	for _, x := range [][2]api.Value{
		{whole(0), {K: api.KInt, Neg: true}},
		{{K: api.KF64}, {K: api.KF64, N: 1 << 63}},
		{{K: api.KF16, N: 0x3C00}, {K: api.KF64, N: 0x3FF0000000000000}},
		{{K: api.KF16, N: 1}, {K: api.KF32, N: 1}},
		{whole(1), {K: api.KBool, N: 1}},
		{bytes("a"), text("a")},
		{great(big(9)), {K: api.KBig, Neg: true, S: big(9)}},
		{great(big(9)), tag(2, bytes(big(9)))},
		{null(), {K: api.KUndef}},
		{text(""), null()},
		{list(), pairs()},
		{list(), null()},
	} {
		checkEqual(t, x[0], x[1], false)
		checkEqual(t, list(x[0]), list(x[1]), false)
	}
}

// TestEqualOfOrder: what stands in another order, or at another depth, is
// another tree.
func TestEqualOfOrder(t *testing.T) {
	a, b := text("a"), text("b")
	for _, x := range [][2]api.Value{
		{list(a, b), list(b, a)},
		{list(a, a, b), list(a, b, a)},
		{list(a), list(a, a)},
		{list(a, b), list(a)},
		{list(list(a), b), list(list(a, b))},
		{list(list(), list(a)), list(list(a), list())},
		{list(a, list(b)), list(a, b)},
		{pairs(a, b, b, a), pairs(b, a, a, b)},
		{pairs(a, b), list(a, b)},
		{tag(1, a), tag(1, b)},
		{tag(1, tag(2, a)), tag(2, tag(1, a))},
		{within(20, null()), within(21, null())},
		{list(nulls(500)...), list(nulls(501)...)},
	} {
		checkEqual(t, x[0], x[1], false)
		checkEqual(t, list(x[0]), list(x[1]), false)
		checkEqual(t, x[0], copied(x[0]), true)
		checkEqual(t, x[1], copied(x[1]), true)
	}
}

// TestEqualOfWrong: all of the fields count, of what is no right tree, too.
func TestEqualOfWrong(t *testing.T) {
	for _, k := range []int{-1, api.KNull, api.KInt, api.KText, api.KEnd, 100} {
		full := api.Value{K: k, Neg: true, N: 1 << 40, S: "\xFF", L: []api.Value{text("\xFE"), {K: k}}}
		checkEqual(t, full, copied(full), true)
		for at := range full.L {
			x := copied(full)
			x.L[at].N++
			checkEqual(t, full, x, false)
		}
		x := copied(full)
		x.L = nil
		checkEqual(t, full, x, false)
	}
}

// TestEqualOfGreat: trees beyond the limits of right ones.
func TestEqualOfGreat(t *testing.T) {
	wide := list(nulls(2 * api.MaxNodes)...)
	other := copied(wide)
	checkEqual(t, wide, other, true)
	other.L[len(other.L)-1].N = 1
	checkEqual(t, wide, other, false)
	checkEqual(t, within(1<<15, whole(1)), within(1<<15, whole(1)), true)
	checkEqual(t, within(1<<15, whole(1)), within(1<<15, whole(2)), false)
}

func TestEqualOfMany(t *testing.T) {
	c := chance(82)
	last := null()
	for range 20000 {
		v := c.tree(5)
		checkEqual(t, v, copied(v), true)
		x := c.broken(v)
		checkEqual(t, v, x, same(v, x))
		checkEqual(t, v, last, same(v, last))
		last = x
	}
}
