package nat_test

import (
	"slices"
	"testing"

	"glossator/api"
	"glossator/nat"
)

func TestQuotientTimesDivisorAndRest(t *testing.T) {
	for _, a := range samples() {
		for _, b := range samples() {
			if nat.Bits(b) == 0 {
				continue
			}
			quotient, rest, _ := nat.Div(a, b)
			if nat.Cmp(rest, b) >= 0 {
				t.Fatalf("%v by %v: the rest %v is not below the divisor", a, b, rest)
			}
			times, _ := nat.Mul(quotient, b)
			if back, e := nat.Add(times, rest); e != api.OK || nat.Cmp(back, a) != 0 {
				t.Fatalf("%v by %v: %v and %v make %v, %v", a, b, quotient, rest, back, e)
			}
		}
		quotient, rest, _ := nat.DivSmall(a, 1000003)
		times, _ := nat.Mul(quotient, []uint32{1000003})
		if back, e := nat.Add(times, []uint32{rest}); e != api.OK || nat.Cmp(back, a) != 0 {
			t.Fatalf("%v by 1000003: %v and %v make %v, %v", a, quotient, rest, back, e)
		}
	}
}

func TestSumsAndDifferencesUndoOneAnother(t *testing.T) {
	for _, a := range samples() {
		for _, b := range samples() {
			sum, _ := nat.Add(a, b)
			if back, e := nat.Sub(sum, b); e != api.OK || nat.Cmp(back, a) != 0 {
				t.Fatalf("%v and %v less the second: %v, %v", a, b, back, e)
			}
			rest, e := nat.Sub(a, b)
			if e != api.OK {
				continue
			}
			if back, e := nat.Add(rest, b); e != api.OK || nat.Cmp(back, a) != 0 {
				t.Fatalf("%v less %v and the second: %v, %v", a, b, back, e)
			}
		}
	}
}

// answers are the numbers that all calls answer of a and b.
func answers(a, b []uint32) [][]uint32 {
	sum, _ := nat.Add(a, b)
	one, _ := nat.Add(a)
	none, _ := nat.Add(nil, a, nil)
	rest, _ := nat.Sub(a, b)
	same, _ := nat.Sub(a, nil)
	times, _ := nat.Mul(a, b)
	small, _, _ := nat.DivSmall(a, 1)
	quotient, over, _ := nat.Div(a, b)
	under, whole, _ := nat.Div(b, a)
	up, _ := nat.Shl(a, 0)
	down, _ := nat.Shr(a, 0)
	far, _ := nat.Shr(a, 32)
	return [][]uint32{sum, one, none, rest, same, times, small, quotient, over, under, whole, up, down, far}
}

// TestNewMemory: no call changes what it is given, and no answer shares memory
// with an argument or with another one, not even behind its end.
func TestNewMemory(t *testing.T) {
	all := samples()
	for _, a := range all {
		for _, b := range all {
			x, y := slices.Clone(a), slices.Clone(b)
			first := answers(x, y)
			again := answers(x, y)
			for _, got := range first {
				got = got[:cap(got)]
				for j := range got {
					got[j] ^= most
				}
			}
			if !slices.Equal(x, a) || !slices.Equal(y, b) {
				t.Fatalf("%v, %v became %v, %v", a, b, x, y)
			}
			for i, want := range answers(a, b) {
				if !slices.Equal(again[i], want) {
					t.Fatalf("%v, %v: the answer %d became %v, was %v", a, b, i, again[i], want)
				}
			}
		}
	}
	b := []byte{0, 1, 2}
	if _, e := nat.FromBytes(b); e != api.OK || !slices.Equal(b, []byte{0, 1, 2}) {
		t.Errorf("FromBytes made its argument into %v, %v", b, e)
	}
}

// TestAnswersOfOneCall: quotient and rest share no memory.
func TestAnswersOfOneCall(t *testing.T) {
	for _, a := range samples() {
		for _, b := range samples() {
			quotient, rest, e := nat.Div(a, b)
			if e != api.OK {
				continue
			}
			want := slices.Clone(rest)
			for i := range quotient[:cap(quotient)] {
				quotient[:cap(quotient)][i] ^= most
			}
			if !slices.Equal(rest, want) {
				t.Fatalf("%v by %v: the rest %v hangs on the quotient", a, b, want)
			}
		}
	}
}
