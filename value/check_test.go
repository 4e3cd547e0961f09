package value_test

import (
	"math"
	"strings"
	"testing"

	"glossator/api"
)

// rightOfEach are right values without others, and with few, of each kind.
func rightOfEach() []api.Value {
	out := []api.Value{
		null(), {K: api.KUndef}, {K: api.KBool}, {K: api.KBool, N: 1},
		whole(0), whole(1), whole(maxUint64), {K: api.KInt, Neg: true}, {K: api.KInt, Neg: true, N: maxUint64},
		bytes(""), bytes("a"), bytes("\xFF\x00"), bytes(big(9)), bytes(strings.Repeat("\x80", 5000)),
		text(""), text("a\x00"), text(strings.Repeat("\u20AC", 5000)),
		list(), list(null()), list(null(), whole(1), list()),
		pairs(), pairs(null(), null()), pairs(whole(1), null(), whole(1), null()), pairs(pairs(), list(), text("a"), tag(1, null())),
		tag(0, null()), tag(1, list()), tag(maxUint64, pairs()), tag(2, null()), tag(3, tag(2, null())),
		{K: api.KExt}, {K: api.KExt, S: "\xFF"}, {K: api.KExt, N: 255, S: big(9)},
	}
	for _, n := range []uint64{0, 1, 18, 19, 32, 33, 254, 255} {
		out = append(out, api.Value{K: api.KSimple, N: n})
	}
	for _, n := range []int{9, 10, api.MaxBig - 1, api.MaxBig} {
		for _, first := range []string{"\x01", "\x7F", "\x80", "\xFF"} {
			s := first + strings.Repeat("\x00", n-1)
			out = append(out, great(s), api.Value{K: api.KBig, Neg: true, S: s})
		}
	}
	for k, bits := range map[int]int{api.KF16: 16, api.KF32: 32, api.KF64: 64} {
		most := uint64(maxUint64) >> (64 - bits)
		for _, n := range []uint64{0, 1, most / 2, most/2 + 1, most - 1, most} {
			out = append(out, api.Value{K: k, N: n})
		}
	}
	return out
}

func TestCheckOfRight(t *testing.T) {
	for _, v := range rightOfEach() {
		checkCheckWithin(t, v, api.OK)
		if len(v.L) == 0 {
			v.L = []api.Value{} // the same as nil
			checkCheck(t, v, api.OK)
		}
	}
	checkCheck(t, api.Value{}, api.OK)
}

// TestCheckOfFields: fields that a kind has not are zero.
func TestCheckOfFields(t *testing.T) {
	for _, v := range rightOfEach() {
		if v.K != api.KInt && v.K != api.KBig {
			x := v
			x.Neg = true
			checkCheckWithin(t, x, api.ErrValue)
		}
		switch v.K {
		case api.KNull, api.KUndef, api.KBig, api.KBytes, api.KText, api.KList, api.KMap:
			for _, n := range []uint64{1, 2, 1 << 16, 1 << 32, 1 << 63, maxUint64} {
				x := v
				x.N = n
				checkCheckWithin(t, x, api.ErrValue)
			}
		}
		switch v.K {
		case api.KNull, api.KBool, api.KUndef, api.KSimple, api.KInt, api.KF16, api.KF32, api.KF64, api.KList, api.KMap, api.KTag:
			for _, s := range []string{"\x00", "a", "\xFF", big(9)} {
				x := v
				x.S = s
				checkCheckWithin(t, x, api.ErrValue)
			}
		}
		switch v.K {
		case api.KList, api.KMap, api.KTag:
		default:
			for _, l := range [][]api.Value{nulls(1), nulls(2), {list()}, {whole(1), text("a"), null()}} {
				x := v
				x.L = l
				checkCheckWithin(t, x, api.ErrValue)
			}
		}
	}
}

// TestCheckOfNumbers: N past what its kind has.
func TestCheckOfNumbers(t *testing.T) {
	for k, wrong := range map[int][]uint64{
		api.KBool:   {2, 3, 255, 256, 257, 1 << 16, 1 << 32, 1<<32 + 1, 1 << 63, maxUint64},
		api.KSimple: {20, 21, 24, 30, 31, 256, 256 + 19, 256 + 32, 1<<16 + 32, 1<<32 + 32, 1 << 63, 1<<63 + 5, maxUint64},
		api.KF16:    {1 << 16, 1<<16 + 1, 1<<16 + 0x3C00, 1<<17 - 1, 1 << 31, 1 << 32, 1 << 63, maxUint64},
		api.KF32:    {1 << 32, 1<<32 + 1, 1<<33 - 1, 1 << 48, 1 << 63, 1<<63 + 0x3F800000, maxUint64},
		api.KExt:    {256, 257, 511, 1 << 16, 1 << 32, 1<<32 + 255, 1 << 63, maxUint64},
	} {
		for _, n := range wrong {
			checkCheckWithin(t, api.Value{K: k, N: n}, api.ErrValue)
		}
	}
	for n := range uint64(300) {
		checkCheck(t, api.Value{K: api.KSimple, N: n}, wantCheck(api.Value{K: api.KSimple, N: n}))
		checkCheck(t, api.Value{K: api.KExt, N: n}, wantCheck(api.Value{K: api.KExt, N: n}))
	}
}

// notBig are bytes that a KBig can't have.
func notBig() []string {
	return []string{
		"", "\x00", "\x01", big(7), big(8), strings.Repeat("\xFF", 8), big(api.MaxBig + 1), big(api.MaxBig + 2), big(2 * api.MaxBig), big(1 << 16),
		"\x00" + big(8), "\x00" + big(9), "\x00" + big(api.MaxBig-1), "\x00" + big(api.MaxBig), strings.Repeat("\x00", 9), strings.Repeat("\x00", api.MaxBig),
	}
}

func TestCheckOfBig(t *testing.T) {
	for _, s := range notBig() {
		checkCheckWithin(t, great(s), api.ErrValue)
		checkCheckWithin(t, api.Value{K: api.KBig, Neg: true, S: s}, api.ErrValue)
	}
}

func TestCheckOfText(t *testing.T) {
	for _, s := range []string{"\x00", "\x7F", "\xC2\x80", "\xDF\xBF", "\xE0\xA0\x80", "\xED\x9F\xBF", "\xEE\x80\x80", "\xEF\xBF\xBF", "\xF0\x90\x80\x80", "\xF4\x8F\xBF\xBF", "\uFEFF", "\uFFFD"} {
		checkCheckWithin(t, text(s), api.OK)
		checkCheck(t, text("a"+s+"b"), api.OK)
	}
	for _, s := range []string{
		"\x80", "\xBF", "\xC0\x80", "\xC1\xBF", "\xC2", "\xC2\x7F", "\xC2\xC0", "\xE0\x80\x80", "\xE0\x9F\xBF", "\xE2\x82", "\xE2\x28\xA1",
		"\xED\xA0\x80", "\xED\xBF\xBF", "\xF0\x80\x80\x80", "\xF0\x8F\xBF\xBF", "\xF0\x90\x80", "\xF4\x90\x80\x80", "\xF5\x80\x80\x80", "\xFE", "\xFF",
	} {
		for _, around := range []string{s, s + "a", "a" + s, strings.Repeat("\u20AC", 100) + s} {
			checkCheckWithin(t, text(around), api.ErrValue)
			checkCheckWithin(t, bytes(around), api.OK)
			checkCheck(t, api.Value{K: api.KExt, S: around}, api.OK)
		}
	}
}

// TestCheckOfMap: keys may be of any kind, and the same.
func TestCheckOfMap(t *testing.T) {
	for n := range 40 {
		want := api.OK
		if n%2 == 1 {
			want = api.ErrValue
		}
		checkCheckWithin(t, pairs(nulls(n)...), want)
		checkCheckWithin(t, list(nulls(n)...), api.OK)
	}
	checkCheck(t, pairs(nulls(api.MaxNodes-2)...), api.OK)
	checkCheck(t, pairs(nulls(api.MaxNodes-3)...), api.ErrValue)
}

func TestCheckOfTag(t *testing.T) {
	for _, n := range []uint64{0, 1, 2, 3, 4, 24, maxUint64} {
		checkCheckWithin(t, tag(n), api.ErrValue)
		checkCheckWithin(t, tag(n, null()), api.OK)
		checkCheckWithin(t, tag(n, null(), null()), api.ErrValue)
		checkCheckWithin(t, tag(n, nulls(3)...), api.ErrValue)
	}
}

// TestCheckOfTagOfBytes: bytes that a KBig is there for are no tag's.
func TestCheckOfTagOfBytes(t *testing.T) {
	bigs := []string{big(9), big(10), big(api.MaxBig - 1), big(api.MaxBig), strings.Repeat("\xFF", 9), strings.Repeat("\xFF", api.MaxBig)}
	for _, s := range bigs {
		for _, n := range []uint64{2, 3} {
			checkCheckWithin(t, tag(n, bytes(s)), api.ErrValue)
			checkCheckWithin(t, tag(n, great(s)), api.OK)
			checkCheckWithin(t, tag(n, list(bytes(s))), api.OK)
			checkCheckWithin(t, tag(n, tag(4, bytes(s))), api.OK)
			checkCheckWithin(t, tag(n, tag(5-n, bytes(s))), api.ErrValue)
			checkCheckWithin(t, tag(n, bytes(s), null()), api.ErrValue)
			checkCheckWithin(t, tag(n, api.Value{K: api.KExt, S: s}), api.OK)
		}
		for _, n := range []uint64{0, 1, 4, 5, 6, 7, 256 + 2, 1<<16 + 3, 1<<32 + 2, 1<<32 + 3, 1<<63 + 2, maxUint64} {
			checkCheckWithin(t, tag(n, bytes(s)), api.OK)
		}
	}
	checkCheckWithin(t, tag(2, text("123456789")), api.OK)
	checkCheckWithin(t, tag(3, text("123456789")), api.OK)
	for _, s := range notBig() {
		checkCheckWithin(t, tag(2, bytes(s)), api.OK)
		checkCheckWithin(t, tag(3, bytes(s)), api.OK)
	}
}

func TestCheckOfNoKind(t *testing.T) {
	for _, k := range []int{-1, -2, -15, math.MinInt, api.KEnd, api.KEnd + 1, 100, 256, 1 << 16, 1<<32 + 1, math.MaxInt} {
		checkCheckWithin(t, api.Value{K: k}, api.ErrValue)
		checkCheckWithin(t, api.Value{K: k, N: 1, S: "a", L: nulls(2)}, api.ErrValue)
	}
}

// TestCheckOfDepth: at MaxDepth all is as below it.
func TestCheckOfDepth(t *testing.T) {
	for name, wrap := range wraps() {
		v := null()
		for depth := range 2 * api.MaxDepth {
			want := api.OK
			if depth > api.MaxDepth {
				want = api.ErrLong
			}
			checkCheck(t, v, want)
			if name != "a list" {
				checkCheck(t, list(v, null()), wantCheck(list(v, null())))
			}
			v = wrap(v)
		}
	}
	for _, bottom := range []api.Value{null(), whole(1), bytes(big(9)), text("a"), {K: api.KF64, N: 1}, {K: api.KExt, S: big(9)}} {
		checkCheck(t, within(api.MaxDepth, bottom), api.OK)
		checkCheck(t, within(api.MaxDepth+1, bottom), api.ErrLong)
	}
	for _, bottom := range []api.Value{list(), pairs(), tag(1, null()), great(big(9)), {K: api.KBig, Neg: true, S: big(api.MaxBig)}} {
		checkCheck(t, within(api.MaxDepth-1, bottom), api.OK)
		checkCheck(t, within(api.MaxDepth, bottom), api.ErrLong)
	}
	checkCheck(t, within(1<<15, null()), api.ErrLong)
	checkCheck(t, within(1<<16-1, null()), api.ErrLong)
}

// TestCheckOfDepthOfLeaves: what stands within a kind without others is wrong,
// but counts for no depth.
func TestCheckOfDepthOfLeaves(t *testing.T) {
	for _, k := range []int{api.KNull, api.KInt, api.KF64, api.KBytes, api.KText, api.KExt, -1, api.KEnd} {
		checkCheck(t, api.Value{K: k, L: []api.Value{within(200, null())}}, api.ErrValue)
		checkCheck(t, within(api.MaxDepth, api.Value{K: k, L: []api.Value{list()}}), api.ErrValue)
		checkCheck(t, within(api.MaxDepth+1, api.Value{K: k, L: []api.Value{list()}}), api.ErrLong)
	}
	leafOfBig := api.Value{K: api.KBig, S: big(9), L: []api.Value{within(200, null())}}
	checkCheck(t, within(api.MaxDepth-1, leafOfBig), api.ErrValue)
	checkCheck(t, within(api.MaxDepth, leafOfBig), api.ErrLong)
}

// TestCheckOfNodes: at MaxNodes all is as below it.
func TestCheckOfNodes(t *testing.T) {
	for _, extra := range []int{-2, -1, 0, 1, 2, 1 << 16} {
		want := api.OK
		if extra > 0 {
			want = api.ErrLong
		}
		n := api.MaxNodes + extra
		checkCheck(t, list(nulls(n-1)...), want)
		checkCheck(t, list(null(), list(nulls(n-3)...)), want)
		checkCheck(t, list(list(nulls(n-3)...), null()), want)
		checkCheck(t, tag(1, list(nulls(n-2)...)), want)
		checkCheck(t, pairs(whole(1), list(list(nulls(n/2)...), list(nulls(n-n/2-5)...))), want)
	}
	checkCheck(t, pairs(nulls(api.MaxNodes-2)...), api.OK)
	checkCheck(t, pairs(nulls(api.MaxNodes)...), api.ErrLong)
}

// TestCheckOfNodesOfEach: values of each kind count, and so do their lists.
func TestCheckOfNodesOfEach(t *testing.T) {
	for _, v := range []api.Value{{K: api.KBool, N: 1}, great(big(9)), text("a"), list(), pairs(), tag(1, null()), list(null(), null())} {
		each := 1 + len(v.L)
		full := (api.MaxNodes - 1) / each
		l := nulls(api.MaxNodes - 1 - full*each)
		for range full {
			l = append(l, v)
		}
		checkCheck(t, list(l...), api.OK)
		checkCheck(t, list(append(l, null())...), api.ErrLong)
	}
}

// TestCheckOfLongAndWrong: ErrLong comes first.
func TestCheckOfLongAndWrong(t *testing.T) {
	for _, wrong := range []api.Value{{K: -1}, {K: api.KNull, N: 1}, text("\xFF"), great(big(8)), pairs(null()), tag(1), tag(2, bytes(big(9))), {K: api.KExt, N: 256}} {
		n := wantCount(wrong)
		for _, extra := range []int{0, 1} {
			want := []api.Errno{api.ErrValue, api.ErrLong}[extra]
			fill := nulls(api.MaxNodes + extra - 1 - n)
			checkCheck(t, list(append([]api.Value{wrong}, fill...)...), want)
			checkCheck(t, list(append(fill, wrong)...), want)
			deep := within(api.MaxDepth+extra-1, null())
			checkCheck(t, list(wrong, deep), want)
			checkCheck(t, list(deep, wrong), want)
		}
		checkCheck(t, within(2*api.MaxDepth, wrong), api.ErrLong)
	}
	for _, extra := range []int{0, 1} {
		want := []api.Errno{api.ErrValue, api.ErrLong}[extra]
		root := list(nulls(api.MaxNodes + extra - 1)...)
		root.N = 1
		checkCheck(t, root, want)
		// Of a kind without others all of L counts, too.
		root.K, root.N = api.KNull, 0
		checkCheck(t, root, want)
		root.K = -1
		checkCheck(t, root, want)
		deep := within(api.MaxDepth+extra, null())
		deep.S = "a"
		checkCheck(t, deep, want)
	}
	odd := pairs(nulls(api.MaxNodes + 1)...)
	checkCheck(t, odd, api.ErrLong)
	checkCheck(t, tag(1, nulls(api.MaxNodes-1)...), api.ErrValue)
	checkCheck(t, tag(1, nulls(api.MaxNodes)...), api.ErrLong)
}

func TestCheckOfMany(t *testing.T) {
	c := chance(81)
	found := map[api.Errno]int{}
	for range 20000 {
		v := c.tree(5)
		checkCheck(t, v, api.OK)
		x := c.broken(v)
		checkCheck(t, x, wantCheck(x))
		found[wantCheck(x)]++
		y := within(api.MaxDepth-5+c.below(6), x)
		checkCheck(t, y, wantCheck(y))
		found[wantCheck(y)]++
	}
	for _, e := range []api.Errno{api.OK, api.ErrLong, api.ErrValue} {
		if found[e] < 100 {
			t.Errorf("%d trees of %v alone", found[e], e)
		}
	}
}
