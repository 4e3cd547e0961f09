package det

import (
	"bytes"
	"slices"

	"glossator/api"
	"glossator/cbor"
)

// pair is a key of a map, with its item, and its value.
type pair struct {
	item       []byte
	key, value api.Value
}

// pairsOf tells the pairs of l, which is plain.
func pairsOf(l []api.Value) []pair {
	out := make([]pair, 0, len(l)/2)
	for place := 0; place < len(l); place += 2 {
		item, _ := cbor.Encode(l[place], api.Option{}) // a plain tree has no KExt
		out = append(out, pair{item, l[place], l[place+1]})
	}
	return out
}

// inOrder tells a map, of which the keys and values are plain, in the order of
// its keys' items.
func inOrder(v api.Value) (api.Value, error) {
	pairs := pairsOf(v.L)
	slices.SortFunc(pairs, func(a, b pair) int { return bytes.Compare(a.item, b.item) })
	out := api.Value{K: api.KMap, L: make([]api.Value, 0, len(v.L))}
	for place, p := range pairs {
		if place > 0 && bytes.Equal(pairs[place-1].item, p.item) {
			return api.Value{}, api.ErrForm
		}
		out.L = append(out.L, p.key, p.value)
	}
	return out, nil
}
