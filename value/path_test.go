package value_test

import (
	"math"
	"testing"

	"glossator/api"
	"glossator/value"
)

// forest has values at the first, a middle and the last place of each kind.
func forest() api.Value {
	return list(
		text("first"),
		pairs(whole(1), list(text("a"), text("b"), text("c")), text("k"), tag(5, list(whole(7)))),
		great(big(9)),
		tag(6, tag(7, bytes("deep"))),
		list(),
		text("last"),
	)
}

func TestAt(t *testing.T) {
	v := forest()
	for _, x := range []struct {
		want api.Value
		path []int
	}{
		{v, nil}, {v, []int{}},
		{text("first"), []int{0}}, {great(big(9)), []int{2}}, {list(), []int{4}}, {text("last"), []int{5}},
		{v.L[1], []int{1}}, {whole(1), []int{1, 0}}, {v.L[1].L[1], []int{1, 1}}, {text("k"), []int{1, 2}}, {v.L[1].L[3], []int{1, 3}},
		{text("a"), []int{1, 1, 0}}, {text("b"), []int{1, 1, 1}}, {text("c"), []int{1, 1, 2}},
		{list(whole(7)), []int{1, 3, 0}}, {whole(7), []int{1, 3, 0, 0}},
		{tag(6, tag(7, bytes("deep"))), []int{3}}, {tag(7, bytes("deep")), []int{3, 0}}, {bytes("deep"), []int{3, 0, 0}},
	} {
		checkAt(t, v, x.want, api.OK, x.path...)
	}
	for _, v := range rightOfEach() {
		checkAt(t, v, v, api.OK)
		for i, x := range v.L {
			checkAt(t, v, x, api.OK, i)
			checkAt(t, list(null(), v), x, api.OK, 1, i)
		}
	}
}

func TestAtOfNowhere(t *testing.T) {
	v := forest()
	for _, path := range [][]int{
		{-1}, {6}, {7}, {math.MinInt}, {math.MaxInt}, {1 << 32}, {-1 << 32},
		{0, 0}, {0, -1}, {2, 0}, {4, 0}, {4, -1}, {5, 0}, {5, 1},
		{1, -1}, {1, 4}, {1, 0, 0}, {1, 1, -1}, {1, 1, 3}, {1, 1, 0, 0}, {1, 1, 2, 0}, {1, 3, 1}, {1, 3, 0, 1}, {1, 3, 0, 0, 0},
		{3, 1}, {3, -1}, {3, 0, 1}, {3, 0, 0, 0},
		// It leads nowhere ahead of its end.
		{-1, 0}, {6, 0}, {1, 4, 0}, {1, -1, 0, 0}, {0, 0, 0, 0},
	} {
		checkAt(t, v, api.Value{}, api.ErrArg, path...)
	}
	for _, v := range rightOfEach() {
		checkAt(t, v, api.Value{}, api.ErrArg, -1)
		checkAt(t, v, api.Value{}, api.ErrArg, len(v.L))
		checkAt(t, list(v), api.Value{}, api.ErrArg, 0, -1)
		checkAt(t, list(v), api.Value{}, api.ErrArg, 0, len(v.L))
		checkAt(t, list(v), api.Value{}, api.ErrArg, 1)
	}
}

// TestAtOfWrong: a path goes by L, whatever K is.
func TestAtOfWrong(t *testing.T) {
	for k := -2; k < 20; k++ {
		v := api.Value{K: k, Neg: true, N: 9, S: "\xFF", L: []api.Value{whole(1), {K: k, L: []api.Value{whole(2)}}}}
		checkAt(t, v, v, api.OK)
		checkAt(t, v, whole(1), api.OK, 0)
		checkAt(t, v, v.L[1], api.OK, 1)
		checkAt(t, v, whole(2), api.OK, 1, 0)
		checkAt(t, v, api.Value{}, api.ErrArg, 2)
		checkAt(t, v, api.Value{}, api.ErrArg, 1, 1)
	}
	deep := make([]int, 1<<16-1)
	checkAt(t, within(len(deep), whole(5)), whole(5), api.OK, deep...)
	checkAt(t, within(len(deep)-1, whole(5)), api.Value{}, api.ErrArg, deep...)
}

// TestAtAnswersNewMemory: nothing that is done to an answer is seen in the tree.
func TestAtAnswersNewMemory(t *testing.T) {
	v, before := forest(), forest()
	path := []int{1, 1}
	for n := range len(path) + 1 {
		got, _ := value.At(v, path[:n]...)
		spoil(got)
		if !same(v, before) {
			t.Fatalf("At(%s): the answer's lists are the tree's", toldPath(path[:n]))
		}
	}
	if path[0] != 1 || path[1] != 1 {
		t.Fatalf("At changed the path to%s", toldPath(path))
	}
	shared := list(null(), null())
	got, _ := value.At(list(shared, shared))
	got.L[0].L[0] = whole(1)
	if !same(got, list(list(whole(1), null()), shared)) {
		t.Fatal("At: two lists of the answer are the same memory")
	}
}

// spoil changes all values of the lists within v.
func spoil(v api.Value) {
	for i := range v.L {
		spoil(v.L[i])
		v.L[i] = api.Value{K: -1}
	}
	if cap(v.L) > len(v.L) {
		_ = append(v.L, api.Value{K: -1})
	}
}

func TestPaths(t *testing.T) {
	checkPaths(t, null(), "")
	checkPaths(t, list(), "")
	checkPaths(t, great(big(9)), "")
	checkPaths(t, list(null()), "", " 0")
	checkPaths(t, list(null(), null(), null()), "", " 0", " 1", " 2")
	checkPaths(t, pairs(null(), list(null())), "", " 0", " 1", " 1 0")
	checkPaths(t, tag(1, tag(2, null())), "", " 0", " 0 0")
	checkPaths(t, list(list(null(), list(null())), null(), list(null())), "", " 0", " 0 0", " 0 1", " 0 1 0", " 1", " 2", " 2 0")
	checkPaths(t, forest(), "", " 0", " 1", " 1 0", " 1 1", " 1 1 0", " 1 1 1", " 1 1 2", " 1 2", " 1 3", " 1 3 0", " 1 3 0 0", " 2", " 3", " 3 0", " 3 0 0", " 4", " 5")
	for _, v := range rightOfEach() {
		checkPaths(t, v, wantPaths(v, "")...)
		for _, wrap := range wraps() {
			checkPaths(t, wrap(v), wantPaths(wrap(v), "")...)
		}
	}
}

// TestPathsOfWrong: they go by L, whatever K is.
func TestPathsOfWrong(t *testing.T) {
	for k := -2; k < 20; k++ {
		v := api.Value{K: k, L: []api.Value{{K: k, L: nulls(1)}, list(null(), null())}}
		checkPaths(t, v, "", " 0", " 0 0", " 1", " 1 0", " 1 1")
	}
	for _, n := range []int{api.MaxDepth, api.MaxDepth + 1, 1000} {
		v := within(n, null())
		checkPaths(t, v, wantPaths(v, "")...)
	}
}

// TestPathsOfGreat: of more than MaxNodes values just the first ones.
func TestPathsOfGreat(t *testing.T) {
	n := api.MaxNodes
	for _, v := range []api.Value{
		list(nulls(n - 2)...), list(nulls(n - 1)...), list(nulls(n)...), list(nulls(n + 1)...), list(nulls(2 * n)...), pairs(nulls(n)...),
		list(list(nulls(n-3)...), list(null(), null()), null()),
		list(list(nulls(n-4)...), list(null(), null()), null()),
		list(list(nulls(n-5)...), tag(1, list(null(), list(null()))), null()),
		list(null(), list(list(nulls(n)...), null()), null()),
		{K: api.KNull, L: nulls(n)},
		{K: -1, L: nulls(n)},
	} {
		want := wantPaths(v, "")
		checkPaths(t, v, want[:min(n, len(want))]...)
	}
}

// TestPathsAnswerNewMemory: no path is another's memory, nor that of another
// call.
func TestPathsAnswerNewMemory(t *testing.T) {
	v := forest()
	got := value.Paths(v)
	for i, path := range got {
		for at := range path {
			path[at] = -1
		}
		_ = append(path, -2, -2, -2)
		for later := i + 1; later < len(got); later++ {
			if toldPath(got[later]) != wantPaths(v, "")[later] {
				t.Fatalf("the path%s changed with that at %d", wantPaths(v, "")[later], i)
			}
		}
	}
	for i, path := range got {
		for _, place := range path {
			if place != -1 {
				t.Fatalf("the path at %d changed with a later one", i)
			}
		}
	}
	checkPaths(t, v, wantPaths(v, "")...)
}

// checkPathsLead asks for what follows: Count paths, At a value at each.
func checkPathsLead(t *testing.T, v api.Value) {
	t.Helper()
	all := value.Paths(v)
	if len(all) != value.Count(v) {
		t.Fatalf("Paths(%s): %d, but Count %d", told(v), len(all), value.Count(v))
	}
	for _, path := range all {
		want := v
		for _, i := range path {
			want = want.L[i]
		}
		checkAt(t, v, want, api.OK, path...)
		checkAt(t, v, api.Value{}, api.ErrArg, append(path, len(want.L))...)
	}
}

func TestPathsLead(t *testing.T) {
	for _, v := range append(rightOfEach(), forest(), within(api.MaxDepth, null()), within(api.MaxDepth-1, great(big(9)))) {
		checkCheck(t, v, api.OK)
		checkPathsLead(t, v)
	}
	c := chance(84)
	for range 3000 {
		v := c.tree(6)
		checkCheck(t, v, api.OK)
		checkPathsLead(t, v)
		checkPaths(t, v, wantPaths(v, "")...)
	}
	// As many values as a right tree can have, in small parts.
	var l []api.Value
	for range (api.MaxNodes - 1) / 5 {
		l = append(l, pairs(null(), tag(1, null()), null(), null())) // 6 values each
	}
	full := list(append(l[:(api.MaxNodes-1)/6], nulls((api.MaxNodes-1)%6)...)...)
	checkCheck(t, full, api.OK)
	checkCount(t, full, api.MaxNodes)
	if n := len(value.Paths(full)); n != api.MaxNodes {
		t.Fatalf("Paths of MaxNodes values: %d", n)
	}
}

// TestNothingIsChanged: a call leaves a tree that is handed in as it was.
func TestNothingIsChanged(t *testing.T) {
	c := chance(85)
	for range 2000 {
		v := c.broken(c.tree(5))
		before := copied(v)
		value.Check(v)
		value.Equal(v, before)
		value.Depth(v)
		value.Count(v)
		value.Leaf(v)
		for _, path := range value.Paths(v) {
			value.At(v, path...)
		}
		if !same(v, before) {
			t.Fatalf("a call changed %s", told(before))
		}
	}
}
