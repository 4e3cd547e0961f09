package nat_test

import (
	"math/big"
	"slices"
	"testing"

	"glossator/api"
)

const most = 1<<32 - 1

// bigOf is what math/big, which the tests hold the package against, has for a.
func bigOf(a []uint32) *big.Int {
	out := new(big.Int)
	for _, x := range slices.Backward(a) {
		out.Lsh(out, 32)
		out.Or(out, big.NewInt(int64(x)))
	}
	return out
}

// limbsOf undoes bigOf.
func limbsOf(n *big.Int) []uint32 {
	rest, low := new(big.Int).Set(n), new(big.Int)
	mask := big.NewInt(most)
	var out []uint32
	for rest.Sign() > 0 {
		out = append(out, uint32(low.And(rest, mask).Uint64()))
		rest.Rsh(rest, 32)
	}
	return out
}

// full is the greatest number of so many limbs.
func full(limbs int) []uint32 {
	return slices.Repeat([]uint32{most}, limbs)
}

// power is 2^32 to the power of limbs.
func power(limbs int) []uint32 {
	return append(make([]uint32, limbs), 1)
}

// padded is a with limbs 0 behind it, even past MaxLimbs.
func padded(a []uint32) []uint32 {
	return append(slices.Clone(a), make([]uint32, api.MaxLimbs+1)...)
}

// chance tells numbers that look like chance but are the same in each run.
type chance uint64

func (c *chance) next(n int) int {
	*c ^= *c << 13
	*c ^= *c >> 7
	*c ^= *c << 17
	return int((uint64(*c) >> 11) % uint64(n))
}

// limbs is a number of up to n limbs, most of them at the edges, where carries
// and wrong guesses of quotients are.
func (c *chance) limbs(n int) []uint32 {
	edges := []uint32{0, 0, 1, 2, most, most, most - 1, 1 << 31, 1<<31 - 1, 1<<31 + 1, 1 << 16}
	out := make([]uint32, c.next(n+1))
	for i := range out {
		if pick := c.next(len(edges) + 4); pick < len(edges) {
			out[i] = edges[pick]
		} else {
			out[i] = uint32(c.next(1 << 32))
		}
	}
	return out
}

// samples are numbers of all kinds, some with limbs 0 at the end.
func samples() [][]uint32 {
	out := [][]uint32{
		nil, {}, {0}, {0, 0, 0}, {1}, {1, 0}, {2}, {10}, {most}, {most, 0, 0},
		{0, 1}, {1, 1}, {most, most}, {0, 0, 1}, {0, 0, 0, 1}, {0, 0, 0, 0, 1},
		full(3), full(4), full(5), full(40), power(40), {0, 0, 1 << 31}, {7, 0, 3},
		{2, 1}, {0, 0, 0, 1 << 31}, {0, 0, 0, 1 << 31, 0, 0},
	}
	c := chance(88172645463325252)
	for range 60 {
		out = append(out, c.limbs(9))
	}
	for range 12 {
		out = append(out, c.limbs(90))
	}
	return out
}

// checkNumber asks for just the number want: no error, no limb 0 at the end.
func checkNumber(t *testing.T, what string, got []uint32, e api.Errno, want *big.Int) {
	t.Helper()
	if e != api.OK || !slices.Equal(got, limbsOf(want)) {
		t.Fatalf("%s: %v, %v, want %v", what, got, e, limbsOf(want))
	}
}

// checkRefused asks for just the error want, and for no number beside it.
func checkRefused(t *testing.T, what string, got []uint32, e, want api.Errno) {
	t.Helper()
	if e != want || len(got) != 0 {
		t.Errorf("%s: %d limbs, %v, want none, %v", what, len(got), e, want)
	}
}
