package value

import (
	"iter"
	"slices"

	"glossator/api"
)

// all goes over the values of v and their paths, each ahead of those within it.
// A path holds till the next one is told.
func all(v api.Value) iter.Seq2[[]int, api.Value] {
	return func(yield func([]int, api.Value) bool) {
		goOver(nil, v, yield)
	}
}

// goOver goes over v, which stands at the path, and tells whether to go on.
func goOver(path []int, v api.Value, yield func([]int, api.Value) bool) bool {
	if !yield(path, v) {
		return false
	}
	for place, x := range v.L {
		if !goOver(append(path, place), x, yield) {
			return false
		}
	}
	return true
}

// clone tells a tree that shares no list with v.
func clone(v api.Value) api.Value {
	v.L = slices.Clone(v.L)
	for place, x := range v.L {
		v.L[place] = clone(x)
	}
	return v
}
