package nat_test

import (
	"bytes"
	"math/big"
	"slices"
	"strings"
	"testing"

	"glossator/api"
	"glossator/nat"
)

func TestBytes(t *testing.T) {
	for _, a := range append(samples(), power(2*api.MaxLimbs), padded([]uint32{258}), padded(nil), []uint32{255}, []uint32{256}, []uint32{1 << 24}) {
		if got, want := nat.Bytes(a), bigOf(a).Bytes(); !bytes.Equal(got, want) {
			t.Fatalf("Bytes(%v): %v, want %v", a, got, want)
		}
	}
}

func TestFromBytes(t *testing.T) {
	c := chance(362436069)
	for n := range 60 {
		b := make([]byte, n)
		for i := range b {
			b[i] = byte(c.next(256))
		}
		got, e := nat.FromBytes(b)
		checkNumber(t, "FromBytes", got, e, new(big.Int).SetBytes(b))
		got, e = nat.FromBytes(append(make([]byte, n%7), b...))
		checkNumber(t, "FromBytes with 0 ahead", got, e, new(big.Int).SetBytes(b))
	}
	for _, b := range [][]byte{nil, {}, {0}, make([]byte, 5*api.MaxLimbs)} {
		got, e := nat.FromBytes(b)
		checkNumber(t, "FromBytes of 0", got, e, new(big.Int))
	}
}

func TestFromBytesAtTheLimit(t *testing.T) {
	top := bytes.Repeat([]byte{255}, 4*api.MaxLimbs)
	got, e := nat.FromBytes(top)
	checkNumber(t, "MaxLimbs", got, e, bigOf(full(api.MaxLimbs)))
	got, e = nat.FromBytes(append(make([]byte, 9), top...))
	checkNumber(t, "MaxLimbs and 0 ahead", got, e, bigOf(full(api.MaxLimbs)))
	got, e = nat.FromBytes(append([]byte{1}, top...))
	checkRefused(t, "one byte more", got, e, api.ErrLong)
	got, e = nat.FromBytes(append([]byte{0, 1}, make([]byte, 4*api.MaxLimbs)...))
	checkRefused(t, "one byte more behind a 0", got, e, api.ErrLong)
}

func TestDigits(t *testing.T) {
	ten := big.NewInt(10)
	all := samples()
	for n := range 60 {
		// Around a power of ten the chunks of digits begin with 0 or end.
		p := new(big.Int).Exp(ten, big.NewInt(int64(n)), nil)
		all = append(all, limbsOf(p), limbsOf(new(big.Int).Sub(p, big.NewInt(1))), limbsOf(new(big.Int).Add(p, big.NewInt(7))))
	}
	all = append(all, full(api.MaxLimbs), power(api.MaxLimbs-1), padded([]uint32{0, 1}))
	for _, a := range all {
		if got, e := nat.Digits(a); e != api.OK || got != bigOf(a).String() {
			t.Fatalf("Digits(%v): %s, %v", a, got, e)
		}
	}
	if got, e := nat.Digits(power(api.MaxLimbs)); e != api.ErrLong || got != "" {
		t.Errorf("Digits of too long: %d bytes, %v", len(got), e)
	}
}

func TestFromDigits(t *testing.T) {
	c := chance(521288629)
	for n := 1; n < 100; n++ {
		b := make([]byte, n)
		for i := range b {
			b[i] = byte('0' + c.next(10))
		}
		for _, s := range []string{string(b), strings.Repeat("0", n), strings.Repeat("9", n), "1" + strings.Repeat("0", n), strings.Repeat("0", 25) + string(b)} {
			want, _ := new(big.Int).SetString(s, 10)
			got, e := nat.FromDigits(s)
			checkNumber(t, "FromDigits", got, e, want)
		}
	}
}

func TestFromDigitsRefuses(t *testing.T) {
	for _, s := range []string{"", " ", "-1", "+1", "1 ", " 1", "1_0", "0x1", "1.0", "1e3", "12a", "/", ":", "\x00", "1\xff", "\u0661", strings.Repeat("1", 30) + ":" + strings.Repeat("1", 30)} {
		got, e := nat.FromDigits(s)
		checkRefused(t, "FromDigits of "+s, got, e, api.ErrForm)
	}
}

func TestFromDigitsAtTheLimit(t *testing.T) {
	for _, digit := range []string{"0", "1", "9"} {
		s := strings.Repeat(digit, api.MaxDigits)
		want, _ := new(big.Int).SetString(s, 10)
		got, e := nat.FromDigits(s)
		checkNumber(t, "MaxDigits", got, e, want)
		got, e = nat.FromDigits(s + digit)
		checkRefused(t, "one digit more", got, e, api.ErrLong)
	}
	got, e := nat.FromDigits(strings.Repeat("x", api.MaxDigits))
	checkRefused(t, "no digits", got, e, api.ErrForm)
	got, e = nat.FromDigits(strings.Repeat("x", api.MaxDigits+1))
	checkRefused(t, "no digits, and too many", got, e, api.ErrLong)
	got, e = nat.FromDigits("-" + strings.Repeat("0", api.MaxDigits))
	checkRefused(t, "a sign, and too many", got, e, api.ErrLong)
}

func TestTextUndoesItself(t *testing.T) {
	for _, a := range samples() {
		s, _ := nat.Digits(a)
		x, e := nat.FromDigits(s)
		y, f := nat.FromBytes(nat.Bytes(a))
		if e != api.OK || f != api.OK || nat.Cmp(x, a) != 0 || !slices.Equal(x, y) {
			t.Fatalf("%v: by digits %v, %v; by bytes %v, %v", a, x, e, y, f)
		}
	}
}
