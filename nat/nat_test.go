package nat_test

import (
	"math"
	"math/big"
	"slices"
	"testing"

	"glossator/api"
	"glossator/nat"
)

func TestCmp(t *testing.T) {
	for _, a := range samples() {
		for _, b := range samples() {
			if got, want := nat.Cmp(a, b), bigOf(a).Cmp(bigOf(b)); got != want {
				t.Fatalf("Cmp(%v, %v): %d, want %d", a, b, got, want)
			}
		}
	}
}

func TestCmpOfAnyLength(t *testing.T) {
	long := power(2 * api.MaxLimbs)
	longer := append(slices.Clone(long), 5)
	for _, c := range []struct {
		a, b []uint32
		want int
	}{{long, long, 0}, {long, longer, -1}, {longer, long, 1}, {nil, long, -1}, {padded(nil), nil, 0}, {[]uint32{3}, padded([]uint32{2}), 1}} {
		if got := nat.Cmp(c.a, c.b); got != c.want {
			t.Errorf("Cmp of %d and %d limbs: %d, want %d", len(c.a), len(c.b), got, c.want)
		}
	}
}

func TestAdd(t *testing.T) {
	all := samples()
	for i, a := range all {
		for j, b := range all {
			c := all[(i+j)%len(all)]
			want := new(big.Int).Add(bigOf(a), bigOf(b))
			got, e := nat.Add(a, b)
			checkNumber(t, "Add of two", got, e, want)
			want.Add(want, bigOf(c)).Add(want, bigOf(a))
			got, e = nat.Add(a, b, c, a)
			checkNumber(t, "Add of four", got, e, want)
		}
		got, e := nat.Add(a)
		checkNumber(t, "Add of one", got, e, bigOf(a))
	}
	many := slices.Repeat([][]uint32{full(2)}, 1000)
	got, e := nat.Add(nil, many...)
	checkNumber(t, "Add of many", got, e, new(big.Int).Mul(bigOf(full(2)), big.NewInt(1000)))
}

func TestAddAtTheLimit(t *testing.T) {
	top := full(api.MaxLimbs)
	got, e := nat.Add(top, nil, []uint32{0})
	checkNumber(t, "the greatest and 0", got, e, bigOf(top))
	got, e = nat.Add(padded([]uint32{1}), padded(top[:api.MaxLimbs-1]))
	checkNumber(t, "up to MaxLimbs", got, e, bigOf(power(api.MaxLimbs-1)))
	got, e = nat.Add(top, []uint32{1})
	checkRefused(t, "a sum that is too long", got, e, api.ErrLong)
	got, e = nat.Add([]uint32{1}, nil, top, top)
	checkRefused(t, "a sum of four", got, e, api.ErrLong)
	got, e = nat.Add(power(api.MaxLimbs))
	checkRefused(t, "the first is too long", got, e, api.ErrLong)
	got, e = nat.Add(nil, nil, power(api.MaxLimbs))
	checkRefused(t, "the last is too long", got, e, api.ErrLong)
}

func TestSub(t *testing.T) {
	for _, a := range samples() {
		for _, b := range samples() {
			got, e := nat.Sub(a, b)
			if want := new(big.Int).Sub(bigOf(a), bigOf(b)); want.Sign() < 0 {
				checkRefused(t, "Sub", got, e, api.ErrArg)
			} else {
				checkNumber(t, "Sub", got, e, want)
			}
		}
	}
	got, e := nat.Sub(full(api.MaxLimbs), power(api.MaxLimbs-1))
	checkNumber(t, "at MaxLimbs", got, e, new(big.Int).Sub(bigOf(full(api.MaxLimbs)), bigOf(power(api.MaxLimbs-1))))
	got, e = nat.Sub(power(api.MaxLimbs), nil)
	checkRefused(t, "a too long", got, e, api.ErrLong)
	got, e = nat.Sub(power(api.MaxLimbs), full(api.MaxLimbs))
	checkRefused(t, "a too long, the difference 1", got, e, api.ErrLong)
	got, e = nat.Sub(nil, power(api.MaxLimbs))
	checkRefused(t, "b too long ahead of ErrArg", got, e, api.ErrLong)
}

func TestMul(t *testing.T) {
	for _, a := range samples() {
		for _, b := range samples() {
			got, e := nat.Mul(a, b)
			checkNumber(t, "Mul", got, e, new(big.Int).Mul(bigOf(a), bigOf(b)))
		}
	}
}

func TestMulAtTheLimit(t *testing.T) {
	half := full(api.MaxLimbs / 2)
	got, e := nat.Mul(half, half)
	checkNumber(t, "two halves", got, e, new(big.Int).Mul(bigOf(half), bigOf(half)))
	got, e = nat.Mul(power(api.MaxLimbs-2), []uint32{0, most})
	checkNumber(t, "just MaxLimbs", got, e, new(big.Int).Mul(bigOf(power(api.MaxLimbs-2)), bigOf([]uint32{0, most})))
	got, e = nat.Mul(power(api.MaxLimbs-1), []uint32{0, 1})
	checkRefused(t, "just above", got, e, api.ErrLong)
	got, e = nat.Mul(full(api.MaxLimbs), []uint32{2})
	checkRefused(t, "a bit above", got, e, api.ErrLong)
	got, e = nat.Mul(full(api.MaxLimbs), full(api.MaxLimbs))
	checkRefused(t, "far above", got, e, api.ErrLong)
	got, e = nat.Mul(full(api.MaxLimbs), padded(nil))
	checkNumber(t, "the greatest by 0", got, e, new(big.Int))
	got, e = nat.Mul(power(api.MaxLimbs), nil)
	checkRefused(t, "a too long, by 0", got, e, api.ErrLong)
	got, e = nat.Mul(nil, power(api.MaxLimbs))
	checkRefused(t, "0 by b too long", got, e, api.ErrLong)
}

func TestDivSmall(t *testing.T) {
	for _, a := range samples() {
		for _, d := range []uint32{1, 2, 3, 10, 1 << 16, 1<<31 - 1, 1 << 31, most - 1, most} {
			want, left := new(big.Int).QuoRem(bigOf(a), big.NewInt(int64(d)), new(big.Int))
			got, rest, e := nat.DivSmall(a, d)
			checkNumber(t, "DivSmall", got, e, want)
			if uint64(rest) != left.Uint64() {
				t.Fatalf("DivSmall(%v, %d): rest %d, want %v", a, d, rest, left)
			}
		}
		if got, rest, e := nat.DivSmall(a, 0); e != api.ErrArg || len(got) != 0 || rest != 0 {
			t.Fatalf("DivSmall(%v, 0): %v, %d, %v", a, got, rest, e)
		}
	}
	got, rest, e := nat.DivSmall(padded(full(api.MaxLimbs)), most)
	checkNumber(t, "at MaxLimbs", got, e, new(big.Int).Quo(bigOf(full(api.MaxLimbs)), big.NewInt(most)))
	if rest != 0 {
		t.Errorf("at MaxLimbs: rest %d", rest)
	}
	for _, d := range []uint32{0, 1, most} {
		if got, rest, e := nat.DivSmall(power(api.MaxLimbs), d); e != api.ErrLong || len(got) != 0 || rest != 0 {
			t.Errorf("DivSmall too long by %d: %d limbs, %d, %v", d, len(got), rest, e)
		}
	}
}

// checkDiv holds a by b against math/big.
func checkDiv(t *testing.T, a, b []uint32) {
	t.Helper()
	quotient, rest, e := nat.Div(a, b)
	if len(limbsOf(bigOf(b))) == 0 {
		checkRefused(t, "quotient by 0", quotient, e, api.ErrArg)
		checkRefused(t, "rest by 0", rest, e, api.ErrArg)
		return
	}
	want, left := new(big.Int).QuoRem(bigOf(a), bigOf(b), new(big.Int))
	checkNumber(t, "quotient", quotient, e, want)
	checkNumber(t, "rest", rest, e, left)
}

func TestDiv(t *testing.T) {
	for _, a := range samples() {
		for _, b := range samples() {
			checkDiv(t, a, b)
		}
	}
	c := chance(2463534242)
	for range 20000 {
		checkDiv(t, c.limbs(14), c.limbs(8))
	}
}

// TestDivGuesses: numbers at which the highest limbs, of 32 or of 64 bits, tell
// too great a part of a quotient.
func TestDivGuesses(t *testing.T) {
	for _, c := range [][2][]uint32{
		{{0, 0, 1 << 31, 1<<31 - 1}, {1, 0, 1 << 31}},
		{{3, 0, 1 << 31}, {1, 0, 1 << 29}},
		{{0, most - 1, 1 << 31}, {most, 1 << 31}},
		{{0, 0, 0, 0, 0, 1 << 31, most, 1<<31 - 1}, {1, 0, 0, 0, 0, 1 << 31}},
		{{3, 0, 0, 0, 0, 1 << 31}, {1, 0, 0, 0, 0, 1 << 29}},
		{{0, 0, most - 1, most, 0, 1 << 31}, {most, most, 0, 1 << 31}},
		{{0, 0, 0, 0, 0, 1 << 31}, {most, most, 0, 1 << 31}},
		{{0, 0, 0, 0, 1}, {most, most, most, most}},
		{{most, most, most, most, 0, 0}, {1, 0, 1}},
		{{0, 0, 0, 0, 1, 0, 1, 1 << 31}, {1, 0, 1, 0, 1, 1 << 31}},
	} {
		checkDiv(t, c[0], c[1])
		checkDiv(t, padded(c[0]), padded(c[1]))
	}
}

func TestDivAtTheLimit(t *testing.T) {
	top := full(api.MaxLimbs)
	for _, b := range [][]uint32{{1}, {most}, {1, 1}, full(api.MaxLimbs / 2), full(api.MaxLimbs - 1), top} {
		checkDiv(t, padded(top), b)
	}
	checkDiv(t, []uint32{5}, top)
	for _, c := range [][2][]uint32{{power(api.MaxLimbs), nil}, {power(api.MaxLimbs), {1}}, {nil, power(api.MaxLimbs)}, {{1}, power(api.MaxLimbs)}} {
		quotient, rest, e := nat.Div(c[0], c[1])
		checkRefused(t, "quotient of too long", quotient, e, api.ErrLong)
		checkRefused(t, "rest of too long", rest, e, api.ErrLong)
	}
}

func TestShifts(t *testing.T) {
	for _, a := range samples() {
		for n := range 200 {
			got, e := nat.Shl(a, n)
			checkNumber(t, "Shl", got, e, new(big.Int).Lsh(bigOf(a), uint(n)))
			got, e = nat.Shr(a, n)
			checkNumber(t, "Shr", got, e, new(big.Int).Rsh(bigOf(a), uint(n)))
		}
		for _, n := range []int{-1, -32, math.MinInt} {
			got, e := nat.Shl(a, n)
			checkRefused(t, "Shl below 0", got, e, api.ErrArg)
			got, e = nat.Shr(a, n)
			checkRefused(t, "Shr below 0", got, e, api.ErrArg)
		}
	}
}

func TestShlAtTheLimit(t *testing.T) {
	const all = 32 * api.MaxLimbs
	for _, a := range [][]uint32{{1}, {most}, {0, 5}, {1 << 31, 0}, full(api.MaxLimbs), padded([]uint32{7})} {
		room := all - bigOf(a).BitLen()
		got, e := nat.Shl(a, room)
		checkNumber(t, "Shl up to MaxLimbs", got, e, new(big.Int).Lsh(bigOf(a), uint(room)))
		for _, n := range []int{room + 1, room + 31, room + 32, all, math.MaxInt} {
			if n > room {
				got, e = nat.Shl(a, n)
				checkRefused(t, "Shl above", got, e, api.ErrLong)
			}
		}
	}
	for _, n := range []int{0, 1, all, all + 1, math.MaxInt} {
		got, e := nat.Shl([]uint32{0, 0}, n)
		checkNumber(t, "Shl of 0", got, e, new(big.Int))
	}
	for _, n := range []int{-1, 0, math.MaxInt} {
		got, e := nat.Shl(power(api.MaxLimbs), n)
		checkRefused(t, "Shl of too long", got, e, api.ErrLong)
	}
}

func TestShrAtTheLimit(t *testing.T) {
	const all = 32 * api.MaxLimbs
	top := full(api.MaxLimbs)
	for _, n := range []int{0, 1, 32, all - 33, all - 32, all - 1, all, all + 1, math.MaxInt} {
		got, e := nat.Shr(padded(top), n)
		checkNumber(t, "Shr at MaxLimbs", got, e, new(big.Int).Rsh(bigOf(top), uint(min(n, 2*all))))
	}
	for _, n := range []int{-1, 0, 32, math.MaxInt} {
		got, e := nat.Shr(power(api.MaxLimbs), n)
		checkRefused(t, "Shr of too long", got, e, api.ErrLong)
	}
}

func TestBits(t *testing.T) {
	for _, a := range append(samples(), power(3*api.MaxLimbs), full(3*api.MaxLimbs), padded(full(2)), padded(nil)) {
		if got, want := nat.Bits(a), bigOf(a).BitLen(); got != want {
			t.Errorf("Bits of %d limbs: %d, want %d", len(a), got, want)
		}
	}
}
