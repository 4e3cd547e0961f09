package det

import (
	"errors"
	"strings"

	"glossator/api"
	"glossator/fbits"
	"glossator/nat"
)

// Numbers of tags whose bytes are a number.
const (
	bigTag   = 2
	belowTag = 3 // of a number below 0
)

const (
	intBytes = 8  // of a KInt's N; a KBig has more
	limbBits = 32 // of nat
)

// plain tells the plain tree of v, which is right, or wraps why there is none.
func plain(v api.Value) (api.Value, error) {
	l, err := plainAll(v.L)
	if err != nil {
		return api.Value{}, err
	}
	v.L = l
	switch v.K { // of a float a KF16 is the least already
	case api.KF32:
		return float(32, v.N), nil
	case api.KF64:
		return float(64, v.N), nil
	case api.KTag:
		return tagged(v), nil
	case api.KMap:
		return inOrder(v)
	case api.KExt:
		return api.Value{}, api.ErrSay
	}
	return v, nil
}

// plainAll tells the plain trees of l. Behind a map that has none it goes on, as
// what CBOR can't say is told ahead of that, wherever it stands.
func plainAll(l []api.Value) ([]api.Value, error) {
	out := make([]api.Value, 0, len(l))
	var first error
	for place, x := range l {
		p, err := plain(x)
		switch {
		case errors.Is(err, api.ErrSay):
			return nil, refusal{place, err}
		case err != nil && first == nil:
			first = refusal{place, err}
		}
		out = append(out, p)
	}
	return out, first
}

// float tells a float in the least width that has it.
func float(width int, bits uint64) api.Value {
	wide, _ := fbits.Widen(width, bits) // of a right tree the bits are of the width
	least, bits := fbits.Least(wide)
	kind := api.KF64
	switch least {
	case 16:
		kind = api.KF16
	case 32:
		kind = api.KF32
	}
	return api.Value{K: kind, N: bits}
}

// tagged tells the number that a tag of a plain value is, or the tag, if it is
// none.
func tagged(tag api.Value) api.Value {
	inside := tag.L[0]
	if tag.N != bigTag && tag.N != belowTag || inside.K != api.KBytes {
		return tag
	}
	neg, s := tag.N == belowTag, strings.TrimLeft(inside.S, "\x00")
	switch {
	case len(s) <= intBytes:
		return api.Value{K: api.KInt, Neg: neg, N: short(s)}
	case len(s) <= api.MaxBig:
		return api.Value{K: api.KBig, Neg: neg, S: s}
	}
	inside.S = s
	return api.Value{K: api.KTag, N: tag.N, L: []api.Value{inside}}
}

// short tells the number of the bytes s, which are no more than N has.
func short(s string) uint64 {
	limbs, _ := nat.FromBytes([]byte(s)) // they are far below nat's bound
	n := uint64(0)
	for place, limb := range limbs {
		n |= uint64(limb) << (limbBits * place)
	}
	return n
}
