package base_test

import (
	"strings"
	"testing"

	"glossator/api"
	"glossator/base"
)

func TestDecodeExamples(t *testing.T) {
	for _, x := range []struct {
		kind int
		s    string
		want string
	}{
		{base.B64, "AQ==", "\x01"},
		{base.Hex, "", ""}, {base.B64, "", ""}, {base.U64, "", ""}, {base.B32, "", ""},
		{base.Hex, "000ff09aabcdef", "\x00\x0F\xF0\x9A\xAB\xCD\xEF"},
		{base.B64, "Zg==", "f"}, {base.B64, "Zm8=", "fo"}, {base.B64, "Zm9v", "foo"}, {base.B64, "+/++", "\xFB\xFF\xBE"},
		{base.U64, "Zg", "f"}, {base.U64, "Zm8", "fo"}, {base.U64, "Zm9v", "foo"}, {base.U64, "-_--", "\xFB\xFF\xBE"},
		{base.B32, "MY======", "f"}, {base.B32, "MZXQ====", "fo"}, {base.B32, "MZXW6===", "foo"}, {base.B32, "MZXW6YQ=", "foob"},
		{base.B32, "MZXW6YTB", "fooba"}, {base.B32, "MZXW6YTBOI======", "foobar"},
	} {
		checkDecode(t, x.kind, x.s, []byte(x.want), len(x.s), api.OK)
	}
}

func TestDecodeRefuses(t *testing.T) {
	for _, x := range []struct {
		kind int
		s    string
		at   int
	}{
		{base.B64, "AR==", 1},
		// Signs that are none of the alphabet's.
		{base.Hex, "AB", 0}, {base.Hex, "0F", 1}, {base.Hex, "0g", 1}, {base.Hex, "01 2", 2}, {base.Hex, "\n", 0}, {base.Hex, "00=", 2}, {base.Hex, "=", 0},
		{base.B64, "AQ-=", 2}, {base.B64, "_Q==", 0}, {base.B64, "A Q=", 1}, {base.B64, "AQ\n==", 2}, {base.B64, "\xC3\xA4==", 0},
		{base.U64, "AQ==", 2}, {base.U64, "A+", 1}, {base.U64, "/A", 0}, {base.U64, "Zm8=", 3}, {base.U64, "=", 0},
		{base.B32, "my======", 0}, {base.B32, "M1======", 1}, {base.B32, "MZ0Q====", 2}, {base.B32, "MZX8====", 3}, {base.B32, "MZXW9===", 4},
		// Numbers of letters that no bytes have.
		{base.Hex, "0", 1}, {base.Hex, "abc", 3}, {base.B64, "A", 1}, {base.B64, "A===", 1}, {base.B64, "AAAAA", 5}, {base.B64, "AAAAA===", 5},
		{base.U64, "A", 1}, {base.U64, "Zm9vA", 5}, {base.B32, "A", 1}, {base.B32, "AAA", 3}, {base.B32, "AAAAAA", 6}, {base.B32, "AAAAAA==", 6},
		{base.B32, "AAA=====", 3}, {base.B32, "A=======", 1}, {base.B32, "AAAAAAAAA", 9},
		// Bits that fill up and are not 0.
		{base.B64, "AB==", 1}, {base.B64, "Zm9=", 2}, {base.B64, "Zm9vA/==", 5}, {base.U64, "AR", 1}, {base.U64, "AAB", 2}, {base.U64, "A_", 1},
		{base.B32, "AB======", 1}, {base.B32, "AAAB====", 3}, {base.B32, "AAAAB===", 4}, {base.B32, "AAAAAAB=", 6}, {base.B32, "A2======", 1},
		// Too few that fill up, too many, and other bytes behind them.
		{base.B64, "AQ", 2}, {base.B64, "AQ=", 2}, {base.B64, "AQ===", 2}, {base.B64, "AQ======", 2}, {base.B64, "Zm8", 3}, {base.B64, "Zm8==", 3},
		{base.B64, "Zm9v=", 4}, {base.B64, "Zm9v====", 4}, {base.B64, "=", 0}, {base.B64, "====", 0}, {base.B64, "=AQ=", 0}, {base.B64, "AQ=A", 2},
		{base.B64, "AQ==A", 2}, {base.B64, "AQ== ", 2}, {base.B64, "AQ=!", 2}, {base.B64, "AQ==AQ==", 2}, {base.B64, "AQ==\n", 2}, {base.B64, "==AQ", 0},
		{base.B32, "MY", 2}, {base.B32, "MY=====", 2}, {base.B32, "MY=======", 2}, {base.B32, "MZXQ===", 4}, {base.B32, "MZXQ=====", 4},
		{base.B32, "MZXW6==", 5}, {base.B32, "MZXW6====", 5}, {base.B32, "MZXW6YQ", 7}, {base.B32, "MZXW6YQ==", 7}, {base.B32, "MZXW6YTB=", 8},
		{base.B32, "MZXW6YTB========", 8}, {base.B32, "========", 0}, {base.B32, "MY===A==", 2}, {base.B32, "MY======MY======", 2},
	} {
		checkDecode(t, x.kind, x.s, nil, x.at, api.ErrForm)
		checkAsWanted(t, x.kind, x.s)
	}
}

func TestDecodeTellsFirstFault(t *testing.T) {
	for _, x := range []struct {
		kind int
		s    string
		at   int
	}{
		// A sign that is none, ahead of a number of letters.
		{base.Hex, "0!0", 1}, {base.B64, "!", 0}, {base.B64, "AAAA!", 4}, {base.B32, "AA!", 2}, {base.U64, "A.AAA", 1},
		// Of two such signs the first.
		{base.Hex, "0G!0", 1}, {base.B64, "A-_=", 1}, {base.B32, "0a1!", 0},
		// A sign that is none, ahead of bits that fill up, and of what fills up.
		{base.B64, "-R==", 0}, {base.B64, "A-", 1}, {base.B32, "1B======", 0}, {base.B64, "A!=", 1}, {base.B64, "AAA!=A", 3},
		// A number of letters, ahead of what fills up; bits, if any, would not be 0.
		{base.B64, "/", 1}, {base.B64, "/=", 1}, {base.B32, "777", 3}, {base.B32, "777==", 3}, {base.B32, "777777", 6}, {base.B64, "A=!", 1},
		// Bits that fill up, ahead of what fills up.
		{base.B64, "AR", 1}, {base.B64, "AR=", 1}, {base.B64, "AR=A", 1}, {base.B64, "AAB", 2}, {base.B32, "AB", 1}, {base.B32, "AB=====!", 1},
	} {
		checkDecode(t, x.kind, x.s, nil, x.at, api.ErrForm)
		checkAsWanted(t, x.kind, x.s)
	}
	for _, kind := range noKinds {
		for _, s := range []string{"", "00", "AQ==", "=", "!", "A", strings.Repeat("A", 100)} {
			checkDecode(t, kind, s, nil, 0, api.ErrArg)
		}
	}
}

func TestDecodeEachSignAtEachPlace(t *testing.T) {
	c := chance(3)
	for _, kind := range kinds {
		for n := range 17 {
			right := byLibrary(kind, c.bytes(n))
			for at := range len(right) + 1 {
				for b := range 256 {
					checkAsWanted(t, kind, right[:at]+string([]byte{byte(b)})+right[at:])
					if at < len(right) {
						checkAsWanted(t, kind, right[:at]+string([]byte{byte(b)})+right[at+1:])
					}
				}
			}
		}
	}
}

func TestDecodeShortAndAlone(t *testing.T) {
	for _, kind := range kinds {
		for a := range 256 {
			checkAsWanted(t, kind, string([]byte{byte(a)}))
			for b := range 256 {
				checkAsWanted(t, kind, string([]byte{byte(a), byte(b)}))
			}
		}
	}
}

func TestDecodeAllOfFewSigns(t *testing.T) {
	few := [...]string{base.Hex: "09afA=", base.B64: "AQR/=-", base.U64: "AQR_=+", base.B32: "AEB7=a"}
	for _, kind := range kinds {
		var grow func(s string, left int)
		grow = func(s string, left int) {
			checkAsWanted(t, kind, s)
			if left == 0 {
				return
			}
			for i := range len(few[kind]) {
				grow(s+few[kind][i:i+1], left-1)
			}
		}
		grow("", 5)
	}
}

func TestDecodeCutAndFilled(t *testing.T) {
	c := chance(4)
	for _, kind := range kinds {
		for n := range 25 {
			right := strings.TrimRight(byLibrary(kind, c.bytes(n)), "=")
			for at := range len(right) + 1 {
				for fill := range 10 {
					checkAsWanted(t, kind, right[:at]+strings.Repeat("=", fill))
					checkAsWanted(t, kind, right[:at]+strings.Repeat("=", fill)+right[at:])
				}
			}
		}
	}
}

func TestDecodeEachLastLetter(t *testing.T) {
	c := chance(5)
	for _, kind := range kinds {
		for n := 1; n < 17; n++ {
			for i := range len(signs[kind]) {
				s := []byte(byLibrary(kind, c.bytes(n)))
				s[lettersOf(kind, n)-1] = signs[kind][i]
				checkAsWanted(t, kind, string(s))
			}
		}
	}
}

func TestDecodeNewMemory(t *testing.T) {
	for _, kind := range kinds {
		s := byLibrary(kind, []byte("seven b"))
		first, _, _ := base.Decode(kind, s)
		second, _, _ := base.Decode(kind, s)
		clear(first[:cap(first)])
		if string(second) != "seven b" {
			t.Errorf("Decode of kind %d shares what it answers: %q", kind, second)
		}
	}
}
