package head_test

import (
	"testing"

	"glossator/api"
	"glossator/head"
)

// checkBack asks Get for the head b of a number, with other bytes behind it,
// and for each of its beginnings.
func checkBack(t *testing.T, b []byte, major int, n uint64) {
	t.Helper()
	info := map[int]int{1: int(n), 2: 24, 3: 25, 5: 26, 9: 27}[len(b)]
	for _, tail := range tails {
		checkGet(t, string(b)+tail, got{major, info, n, len(b), api.OK})
	}
	for length := range b {
		checkGet(t, string(b[:length]), short(length))
	}
}

// eachNumber goes over numbers of each major: at edges, small ones, and many.
func eachNumber(c chance, each func(major int, n uint64)) {
	for major := range 8 {
		for _, n := range edges {
			each(major, n)
		}
		for n := range uint64(300) {
			each(major, n)
		}
		for range 500 {
			each(major, c.number())
		}
	}
}

func TestGetUndoesPut(t *testing.T) {
	told := 0
	eachNumber(chance(104), func(major int, n uint64) {
		if b, e := head.Put(major, n); e == api.OK {
			checkBack(t, b, major, n)
			told++
		}
	})
	if told < 7*(len(edges)+800) {
		t.Fatalf("only %d heads", told)
	}
}

func TestGetUndoesWide(t *testing.T) {
	told := 0
	eachNumber(chance(105), func(major int, n uint64) {
		for _, size := range sizes {
			b, e := head.Wide(major, n, size)
			if e != api.OK {
				continue
			}
			if len(b) != 1+size {
				t.Fatalf("Wide(%d, %d, %d): %X", major, n, size, b)
			}
			checkBack(t, b, major, n)
			told++
		}
	})
	if told < 7*(len(edges)+1500) {
		t.Fatalf("only %d heads", told)
	}
}

// leastLengths tells of each major the length of the shortest head that Get
// finds for each number, of all bytes of so many or fewer.
func leastLengths(most int) [8]map[uint64]int {
	var out [8]map[uint64]int
	for major := range out {
		out[major] = map[uint64]int{}
	}
	var grow func(b []byte)
	grow = func(b []byte) {
		major, info, n, length, e := head.Get(b)
		if e == api.OK && length == len(b) && info != 31 {
			if least := out[major][n]; least == 0 || length < least {
				out[major][n] = length
			}
		}
		if len(b) == most || e != api.ErrShort {
			return
		}
		for x := range 256 {
			grow(append(b[:len(b):len(b)], byte(x)))
		}
	}
	grow(nil)
	return out
}

// TestNothingIsShorter: of all bytes of three or fewer, none that are shorter
// than Put's are a head of its number, and none of three are where it has five.
func TestNothingIsShorter(t *testing.T) {
	for major, lengths := range leastLengths(3) {
		for n := range uint64(70000) {
			b, e := head.Put(major, n)
			if e != api.OK {
				continue
			}
			want := len(b)
			if want > 3 {
				want = 0
			}
			if lengths[n] != want {
				t.Fatalf("Put(%d, %d): %d bytes, the least are %d", major, n, len(b), lengths[n])
			}
		}
		for _, n := range edges {
			if n >= 1<<16 && lengths[n] != 0 {
				t.Fatalf("major %d has %d in %d bytes", major, n, lengths[n])
			}
		}
	}
}

// TestNothingIsShorterOfLong: no size below that of Put has the number, and no
// first byte with fewer bytes behind it says it.
func TestNothingIsShorterOfLong(t *testing.T) {
	eachNumber(chance(106), func(major int, n uint64) {
		b, e := head.Put(major, n)
		if e != api.OK {
			return
		}
		for _, size := range sizes {
			if size < len(b)-1 {
				checkWide(t, major, n, size, nil, api.ErrArg)
			}
		}
		for first := range 32 {
			for length := 1; length < len(b); length++ {
				shorter := append([]byte{byte(major*32 + first)}, b[len(b)-length+1:]...)
				gotMajor, info, gotN, _, e := head.Get(shorter)
				if e == api.OK && info != 31 && gotMajor == major && gotN == n {
					t.Fatalf("Put(%d, %d) is %X, but %X will do", major, n, b, shorter)
				}
			}
		}
	})
}
