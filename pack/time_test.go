package pack_test

import (
	"math"
	"strings"
	"testing"

	"glossator/api"
	"glossator/pack"
)

const lastNano = 999999999

func checkTime(t *testing.T, v api.Value, seconds int64, nanos uint32, is bool) {
	t.Helper()
	before := copied(v)
	s, n, ok := pack.Time(v)
	if s != seconds || n != nanos || ok != is {
		t.Fatalf("Time(%s): %d, %d, %v, want %d, %d, %v", told(v), s, n, ok, seconds, nanos, is)
	}
	if !same(v, before) {
		t.Fatalf("Time(%s) changed it", told(before))
	}
}

func stamp(s string) api.Value { return ext(255, s) }

// eight and twelve are the bytes of times, of which the nanoseconds may be too
// many.
func eight(seconds, nanos uint64) string { return inBytes(nanos<<34+seconds, 8) }
func twelve(seconds int64, nanos uint64) string {
	return inBytes(nanos, 4) + inBytes(uint64(seconds), 8)
}

// TestTime: of four, eight and twelve bytes.
func TestTime(t *testing.T) {
	for _, x := range []struct {
		letters string
		seconds int64
		nanos   uint32
	}{
		{"00 00 00 00", 0, 0}, {"00 00 00 01", 1, 0}, {"01 02 03 04", 0x01020304, 0}, {"7F FF FF FF", 1<<31 - 1, 0}, {"80 00 00 00", 1 << 31, 0}, {"FF FF FF FF", 1<<32 - 1, 0},
		{"00 00 00 00 00 00 00 00", 0, 0}, {"00 00 00 00 00 00 00 01", 1, 0}, {"00 00 00 00 FF FF FF FF", 1<<32 - 1, 0}, {"00 00 00 01 00 00 00 00", 1 << 32, 0}, {"00 00 00 02 00 00 00 00", 1 << 33, 0}, {"00 00 00 03 FF FF FF FF", 1<<34 - 1, 0},
		{"00 00 00 04 00 00 00 00", 0, 1}, {"00 00 00 07 FF FF FF FF", 1<<34 - 1, 1}, {"EE 6B 27 FC 00 00 00 00", 0, lastNano}, {"EE 6B 27 FF FF FF FF FF", 1<<34 - 1, lastNano}, {"80 00 00 00 00 00 00 05", 5, 1 << 29},
		{"00 00 00 00 00 00 00 00 00 00 00 00", 0, 0}, {"00 00 00 00 00 00 00 00 00 00 00 01", 1, 0}, {"00 00 00 01 00 00 00 00 00 00 00 00", 0, 1}, {"3B 9A C9 FF 00 00 00 04 00 00 00 00", 1 << 34, lastNano},
		{"00 00 00 00 FF FF FF FF FF FF FF FF", -1, 0}, {"3B 9A C9 FF FF FF FF FF FF FF FF FE", -2, lastNano}, {"00 00 00 07 01 02 03 04 05 06 07 08", 0x0102030405060708, 7},
		{"00 00 00 00 80 00 00 00 00 00 00 00", math.MinInt64, 0}, {"3B 9A C9 FF 80 00 00 00 00 00 00 00", math.MinInt64, lastNano}, {"00 00 00 00 7F FF FF FF FF FF FF FF", math.MaxInt64, 0}, {"3B 9A C9 FF 7F FF FF FF FF FF FF FF", math.MaxInt64, lastNano},
	} {
		v := stamp(string(bytesOf(t, x.letters)))
		checkTime(t, v, x.seconds, x.nanos, true)
		v.L = []api.Value{} // as nil
		checkTime(t, v, x.seconds, x.nanos, true)
	}
	// Each bit counts, just where it stands.
	for bit := range 32 {
		checkTime(t, stamp(inBytes(1<<bit, 4)), 1<<bit, 0, true)
	}
	for bit := range 64 {
		if bit < 34 {
			checkTime(t, stamp(eight(1<<bit, 0)), 1<<bit, 0, true)
		} else {
			checkTime(t, stamp(inBytes(1<<bit, 8)), 0, 1<<(bit-34), true)
		}
		checkTime(t, stamp(twelve(1<<bit, 3)), 1<<bit, 3, true)
	}
}

// TestTimeOfNone: all that is no time.
func TestTimeOfNone(t *testing.T) {
	none := func(v api.Value) {
		t.Helper()
		checkTime(t, v, 0, 0, false)
	}
	for n := range 40 {
		if n != 4 && n != 8 && n != 12 {
			none(stamp(strings.Repeat("\x01", n)))
			none(stamp(strings.Repeat("\x00", n)))
		}
	}
	none(stamp(strings.Repeat("\x01", 256)))
	for _, s := range []string{inBytes(5, 4), eight(5, 6), twelve(-5, 6)} {
		for _, n := range []uint64{0, 1, 127, 128, 254, 256, 511, 1<<32 + 255, maxUint64} {
			none(ext(n, s))
		}
		for _, v := range []api.Value{
			{K: api.KExt, Neg: true, N: 255, S: s}, {K: api.KExt, N: 255, S: s, L: nulls(1)}, {K: api.KExt, N: 255, S: s, L: []api.Value{stamp(s)}}, {K: api.KExt, Neg: true, S: s},
			list(stamp(s)), pairs(stamp(s), stamp(s)), tag(255, stamp(s)), raw(s), text("abcd"), whole(255), null(), {},
		} {
			none(v)
		}
		for kind := -1; kind <= 20; kind++ {
			if kind != api.KExt {
				none(api.Value{K: kind, N: 255, S: s})
			}
		}
	}
	for _, seconds := range []uint64{0, 1, 5, 1<<34 - 1} {
		checkTime(t, stamp(eight(seconds, lastNano)), int64(seconds), lastNano, true)
		for _, nanos := range []uint64{lastNano + 1, lastNano + 2, 1<<30 - 1} {
			none(stamp(eight(seconds, nanos)))
		}
	}
	for _, seconds := range []int64{0, 1, -1, 1 << 34, math.MinInt64, math.MaxInt64} {
		checkTime(t, stamp(twelve(seconds, lastNano)), seconds, lastNano, true)
		for _, nanos := range []uint64{lastNano + 1, lastNano + 2, 1 << 30, 1 << 31, 1<<32 - 1} {
			none(stamp(twelve(seconds, nanos)))
		}
	}
}

func checkFromTime(t *testing.T, seconds int64, nanos uint32, want api.Value, wantE api.Errno) {
	t.Helper()
	v, e := pack.FromTime(seconds, nanos)
	if !same(v, want) || e != wantE {
		t.Fatalf("FromTime(%d, %d): %s, %v, want %s, %v", seconds, nanos, told(v), e, told(want), wantE)
	}
}

// TestFromTime: where four, eight and twelve bytes are the fewest.
func TestFromTime(t *testing.T) {
	for _, x := range []struct {
		seconds int64
		nanos   uint32
		letters string
	}{
		{0, 0, "00 00 00 00"}, {1, 0, "00 00 00 01"}, {0x01020304, 0, "01 02 03 04"}, {1<<31 - 1, 0, "7F FF FF FF"}, {1 << 31, 0, "80 00 00 00"}, {1<<32 - 1, 0, "FF FF FF FF"},
		{0, 1, "00 00 00 04 00 00 00 00"}, {1, 1, "00 00 00 04 00 00 00 01"}, {1<<32 - 1, 1, "00 00 00 04 FF FF FF FF"}, {0, lastNano, "EE 6B 27 FC 00 00 00 00"},
		{1 << 32, 0, "00 00 00 01 00 00 00 00"}, {1 << 32, 1, "00 00 00 05 00 00 00 00"}, {1 << 33, 0, "00 00 00 02 00 00 00 00"}, {1<<34 - 1, 0, "00 00 00 03 FF FF FF FF"}, {1<<34 - 1, 1, "00 00 00 07 FF FF FF FF"}, {1<<34 - 1, lastNano, "EE 6B 27 FF FF FF FF FF"},
		{1 << 34, 0, "00 00 00 00 00 00 00 04 00 00 00 00"}, {1 << 34, 1, "00 00 00 01 00 00 00 04 00 00 00 00"}, {1<<34 + 1, lastNano, "3B 9A C9 FF 00 00 00 04 00 00 00 01"}, {1 << 35, 0, "00 00 00 00 00 00 00 08 00 00 00 00"},
		{math.MaxInt64, 0, "00 00 00 00 7F FF FF FF FF FF FF FF"}, {math.MaxInt64, lastNano, "3B 9A C9 FF 7F FF FF FF FF FF FF FF"}, {1 << 62, 2, "00 00 00 02 40 00 00 00 00 00 00 00"},
		{-1, 0, "00 00 00 00 FF FF FF FF FF FF FF FF"}, {-1, 1, "00 00 00 01 FF FF FF FF FF FF FF FF"}, {-2, lastNano, "3B 9A C9 FF FF FF FF FF FF FF FF FE"}, {-1 << 32, 0, "00 00 00 00 FF FF FF FF 00 00 00 00"}, {-1 << 34, 5, "00 00 00 05 FF FF FF FC 00 00 00 00"},
		{math.MinInt64, 0, "00 00 00 00 80 00 00 00 00 00 00 00"}, {math.MinInt64, lastNano, "3B 9A C9 FF 80 00 00 00 00 00 00 00"},
	} {
		checkFromTime(t, x.seconds, x.nanos, stamp(string(bytesOf(t, x.letters))), api.OK)
	}
	for _, nanos := range []uint32{lastNano + 1, lastNano + 2, 1 << 30, 1<<30 - 1, 1 << 31, math.MaxUint32} {
		for _, seconds := range []int64{0, 1, -1, 1 << 32, 1 << 34, math.MinInt64, math.MaxInt64} {
			checkFromTime(t, seconds, nanos, api.Value{}, api.ErrArg)
		}
	}
}

// moments are seconds and nanoseconds, at the ends of what so many bytes tell
// and beside them.
func moments() (seconds []int64, nanos []uint32) {
	for bit := range 63 {
		n := int64(1) << bit
		seconds = append(seconds, n-1, n, n+1, -n, -n-1, -n+1)
	}
	for bit := range 30 {
		if n := uint32(1) << bit; n < lastNano {
			nanos = append(nanos, n-1, n, n+1)
		}
	}
	return append(seconds, math.MaxInt64, math.MaxInt64-1, math.MinInt64, math.MinInt64+1), append(nanos, lastNano-1, lastNano)
}

// TestTimeUndoesFromTime: and FromTime tells the fewest bytes, as an item, too.
func TestTimeUndoesFromTime(t *testing.T) {
	seconds, nanos := moments()
	for _, s := range seconds {
		for _, n := range nanos {
			v, e := pack.FromTime(s, n)
			if e != api.OK {
				t.Fatalf("FromTime(%d, %d): %v", s, n, e)
			}
			checkTime(t, v, s, n, true)
			want := twelve(s, uint64(n))
			switch {
			case s >= 0 && s < 1<<32 && n == 0:
				want = inBytes(uint64(s), 4)
			case s >= 0 && s < 1<<34:
				want = eight(uint64(s), uint64(n))
			}
			if !same(v, stamp(want)) {
				t.Fatalf("FromTime(%d, %d): %s, want %s", s, n, told(v), told(stamp(want)))
			}
			checkBack(t, v)
		}
	}
}

// TestTimesAsItems: with their first bytes.
func TestTimesAsItems(t *testing.T) {
	for _, x := range []struct {
		seconds int64
		nanos   uint32
		item    string
	}{{5, 0, "D6 FF 00 00 00 05"}, {5, 1, "D7 FF 00 00 00 04 00 00 00 05"}, {-1, 0, "C7 0C FF 00 00 00 00 FF FF FF FF FF FF FF FF"}} {
		v, _ := pack.FromTime(x.seconds, x.nanos)
		checkEncode(t, v, bytesOf(t, x.item), api.OK)
		v, _, _ = pack.Decode(bytesOf(t, x.item), most)
		checkTime(t, v, x.seconds, x.nanos, true)
	}
}
