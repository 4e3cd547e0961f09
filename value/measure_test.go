package value_test

import (
	"math"
	"testing"

	"glossator/api"
	"glossator/value"
)

func TestDepth(t *testing.T) {
	for _, x := range []struct {
		v    api.Value
		want int
	}{
		{list(), 1}, {list(list()), 2}, {list(null()), 1}, {list(nulls(100)...), 1}, {list(list(null())), 2},
		{pairs(), 1}, {pairs(null(), null()), 1}, {pairs(list(), null()), 2}, {pairs(null(), list()), 2}, {pairs(pairs(), pairs(null(), pairs())), 3},
		{tag(1, null()), 1}, {tag(1, tag(1, null())), 2}, {tag(2, bytes(big(9))), 1}, {tag(2, bytes(big(8))), 1}, {tag(1, list(tag(1, pairs()))), 4},
		{great(big(9)), 1}, {list(great(big(9))), 2}, {pairs(great(big(9)), null()), 2}, {tag(1, great(big(9))), 2}, {list(null(), list(great(big(9))), null()), 3},
		{list(list(list()), list()), 3}, {list(list(), list(list()), list()), 3}, {list(list(), list(list())), 3}, {list(null(), list(list(list())), list()), 4},
	} {
		checkDepth(t, x.v, x.want)
	}
	for _, v := range rightOfEach() {
		if value.Leaf(v) && v.K != api.KBig {
			checkDepth(t, v, 0)
		}
		checkDepth(t, v, wantDepth(v))
		for _, wrap := range wraps() {
			checkDepth(t, wrap(v), 1+wantDepth(v))
			checkDepth(t, wrap(wrap(v)), 2+wantDepth(v))
		}
	}
}

// TestDepthOfWrong: K alone counts, and there is no limit.
func TestDepthOfWrong(t *testing.T) {
	deep := within(9, null())
	for k := -2; k < 20; k++ {
		v := api.Value{K: k, Neg: true, N: maxUint64, S: "\xFF", L: []api.Value{null(), deep, list()}}
		want := 0
		switch k {
		case api.KBig:
			want = 1
		case api.KList, api.KMap, api.KTag:
			want = 10
		}
		checkDepth(t, v, want)
		checkDepth(t, list(v), 1+want)
		v.L = nil
		checkDepth(t, v, min(want, 1))
		checkDepth(t, tag(1, null(), v), 1+min(want, 1))
	}
	for _, s := range append(notBig(), big(9)) {
		checkDepth(t, great(s), 1)
		checkDepth(t, tag(2, bytes(s)), 1)
	}
	for _, n := range []int{api.MaxDepth - 1, api.MaxDepth, api.MaxDepth + 1, 1000, 1<<16 - 1} {
		checkDepth(t, within(n, null()), n)
		checkDepth(t, within(n-1, great(big(9))), n)
	}
}

func TestCount(t *testing.T) {
	for _, x := range []struct {
		v    api.Value
		want int
	}{
		{null(), 1}, {great(big(9)), 1}, {list(), 1}, {pairs(), 1}, {list(null()), 2}, {pairs(null(), null()), 3}, {tag(1, null()), 2}, {tag(1, tag(1, null())), 3},
		{list(list(null()), list(null(), null())), 6}, {list(null(), pairs(null(), list()), tag(4, list(null()))), 8},
	} {
		checkCount(t, x.v, x.want)
	}
	for _, v := range rightOfEach() {
		checkCount(t, v, wantCount(v))
		for _, wrap := range wraps() {
			checkCount(t, wrap(v), wantCount(wrap(v)))
		}
	}
}

// TestCountOfWrong: all of L counts, whatever K is, and there is no limit.
func TestCountOfWrong(t *testing.T) {
	for k := -2; k < 20; k++ {
		v := api.Value{K: k, L: []api.Value{null(), within(9, null()), list()}}
		checkCount(t, v, 13)
		checkCount(t, list(v, v), 27)
		checkCount(t, api.Value{K: k, L: []api.Value{v, v}}, 27)
		checkCount(t, api.Value{K: k, L: nulls(1)}, 2)
		checkCount(t, api.Value{K: k, L: nulls(3)}, 4)
	}
	for _, n := range []int{api.MaxNodes - 2, api.MaxNodes - 1, api.MaxNodes, api.MaxNodes + 1, 3 * api.MaxNodes} {
		checkCount(t, list(nulls(n)...), 1+n)
		checkCount(t, api.Value{K: api.KNull, L: nulls(n)}, 1+n)
	}
	checkCount(t, within(1<<16-1, null()), 1<<16)
}

func TestLeaf(t *testing.T) {
	for k := -20; k < 300; k++ {
		want := k != api.KList && k != api.KMap && k != api.KTag
		for _, v := range []api.Value{{K: k}, {K: k, L: nulls(2)}, {K: k, Neg: true, N: 11, S: "a"}} {
			if value.Leaf(v) != want {
				t.Fatalf("Leaf(%s): %v", told(v), !want)
			}
		}
	}
	for _, k := range []int{math.MinInt, math.MaxInt, 1<<32 + api.KList, 1<<32 + api.KMap, 1<<32 + api.KTag} {
		if !value.Leaf(api.Value{K: k}) {
			t.Fatalf("Leaf of the kind %d: false", k)
		}
	}
}

func TestMeasuresOfMany(t *testing.T) {
	c := chance(83)
	for range 20000 {
		v := c.tree(6)
		x := c.broken(v)
		for _, v := range []api.Value{v, x, within(c.below(100), x)} {
			checkDepth(t, v, wantDepth(v))
			checkCount(t, v, wantCount(v))
		}
	}
}
