package det_test

import (
	"strings"
	"testing"

	"glossator/api"
)

// TestNumbers: by hand, those that bytes behind a tag 2 or 3 are.
func TestNumbers(t *testing.T) {
	for _, x := range []struct {
		v, want api.Value
	}{
		{tag(2, raw("")), whole(0)}, {tag(3, raw("")), below(0)},
		{tag(2, raw("\x00")), whole(0)}, {tag(3, raw("\x00")), below(0)}, {tag(2, raw(zeros(8))), whole(0)}, {tag(3, raw(zeros(9))), below(0)}, {tag(2, raw(zeros(api.MaxBig+1))), whole(0)},
		{tag(2, raw("\x01")), whole(1)}, {tag(3, raw("\x01")), below(1)}, {tag(2, raw("\xFF")), whole(255)}, {tag(2, raw("\x00\xFF")), whole(255)}, {tag(3, raw("\x01\x00")), below(256)}, {tag(2, raw("\x01\x02\x03\x04\x05")), whole(0x0102030405)},
		{tag(2, raw("\x01\x02\x03\x04\x05\x06\x07\x08")), whole(0x0102030405060708)}, {tag(3, raw(strings.Repeat("\xFF", 8))), below(maxUint64)}, {tag(2, raw(big(8))), whole(1 << 56)},
		{tag(2, raw("\x00"+big(8))), whole(1 << 56)}, {tag(3, raw("\x00"+strings.Repeat("\xFF", 8))), below(maxUint64)}, {tag(3, raw(zeros(600)+"\x05")), below(5)},
		{tag(2, raw("\x00"+big(9))), great(big(9))}, {tag(3, raw("\x00"+big(9))), greatBelow(big(9))}, {tag(3, raw("\x00\x01"+strings.Repeat("\xFF", 8))), greatBelow("\x01" + strings.Repeat("\xFF", 8))}, {tag(2, raw(zeros(3)+big(9))), great(big(9))},
		{tag(2, raw("\x00"+big(api.MaxBig))), great(big(api.MaxBig))}, {tag(3, raw(zeros(700)+big(api.MaxBig))), greatBelow(big(api.MaxBig))},
		{tag(2, raw(big(api.MaxBig+1))), tag(2, raw(big(api.MaxBig+1)))}, {tag(3, raw("\x00"+big(api.MaxBig+1))), tag(3, raw(big(api.MaxBig+1)))}, {tag(2, raw(zeros(50)+big(5000))), tag(2, raw(big(5000)))},
		{tag(2, raw(zeros(20000)+big(20000))), tag(2, raw(big(20000)))}, {tag(3, raw(zeros(20000))), below(0)},
		{great(big(9)), great(big(9))}, {greatBelow(big(api.MaxBig)), greatBelow(big(api.MaxBig))},
		// Bytes 0 behind the first that is not count.
		{tag(2, raw("\x00\x01\x00\x00")), whole(1 << 16)}, {tag(2, raw("\x000\x00")), whole(0x3000)}, {tag(2, raw("\x00\x80")), whole(0x80)}, {tag(3, raw("\x00\xC3\x28")), below(0xC328)},
		// What is no such tag of bytes.
		{tag(2, text("\x00a")), tag(2, text("\x00a"))}, {tag(3, text("")), tag(3, text(""))}, {tag(2, whole(5)), tag(2, whole(5))}, {tag(3, below(5)), tag(3, below(5))}, {tag(2, great(big(9))), tag(2, great(big(9)))}, {tag(3, null()), tag(3, null())}, {tag(2, list(raw("\x00"))), tag(2, list(raw("\x00")))}, {tag(3, pairs()), tag(3, pairs())},
		{tag(0, raw("\x00")), tag(0, raw("\x00"))}, {tag(1, raw("")), tag(1, raw(""))}, {tag(4, raw("\x00\x01")), tag(4, raw("\x00\x01"))}, {tag(5, raw(big(9))), tag(5, raw(big(9)))}, {tag(2+1<<32, raw("\x00")), tag(2+1<<32, raw("\x00"))}, {tag(3+1<<63, raw("\x00")), tag(3+1<<63, raw("\x00"))}, {tag(maxUint64, raw("\x00")), tag(maxUint64, raw("\x00"))},
		{raw("\x00\x01"), raw("\x00\x01")},
		// Those within come first.
		{tag(2, tag(2, raw("\x05"))), tag(2, whole(5))}, {tag(3, tag(2, raw("\x00"+big(9)))), tag(3, great(big(9)))}, {tag(2, tag(3, tag(2, raw("")))), tag(2, tag(3, whole(0)))}, {tag(4, tag(2, raw("\x05"))), tag(4, whole(5))}, {tag(2, tag(4, raw("\x00"))), tag(2, tag(4, raw("\x00")))},
		{tag(2, f64(0)), tag(2, f16(0))}, {tag(3, list(tag(3, raw("\x00")))), tag(3, list(below(0)))}, {tag(2, tag(2, raw("\x00"+big(600)))), tag(2, tag(2, raw(big(600))))},
	} {
		for _, wrap := range wraps() {
			checkPlain(t, wrap(x.v), wrap(x.want))
		}
		checkAsWanted(t, x.v)
		checkIs(t, item(x.v), same(x.v, x.want))
	}
}

// TestNumbersOfEachLength: bytes of each length, behind each of some bytes 0.
func TestNumbersOfEachLength(t *testing.T) {
	for _, ahead := range []int{0, 1, 2, 3, 8, 9, 505, 512, 513} {
		for n := range 520 {
			if n > 20 && n < 500 && n%37 > 1 {
				continue
			}
			for _, first := range []string{"\x01", "\x80", "\xFF"} {
				for _, other := range []string{"\x00", "\x01", "\xFF"} {
					s := zeros(ahead) + (first + strings.Repeat(other, 600))[:n]
					if len(s) > 8 && len(s) <= api.MaxBig && ahead == 0 {
						checkRefused(t, tag(2, raw(s)), api.ErrValue)
						checkRefused(t, tag(3, raw(s)), api.ErrValue)
						checkPlain(t, great(s), great(s))
						continue
					}
					checkAsWanted(t, tag(2, raw(s)))
					checkAsWanted(t, list(tag(3, raw(s)), tag(2, raw(s)), tag(1, raw(s))))
				}
			}
		}
	}
}
