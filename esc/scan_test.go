package esc_test

import (
	"strconv"
	"strings"
	"testing"

	"glossator/api"
	"glossator/esc"
)

func TestScanOfWhole(t *testing.T) {
	for _, s := range wholes() {
		want := saidBy(s)
		checkScan(t, s, want, len(s), api.OK)
		for b := range 256 {
			checkScan(t, s+string([]byte{byte(b)}), want, len(s), api.OK)
		}
	}
	for _, c := range []struct{ s, want string }{
		{`""`, ""}, {`"" "a"`, ""}, {`"\u0041"`, "A"}, {`"\ud83D\uDe00"`, "\U0001F600"}, {`"\uD800\uDC00"`, "\U00010000"},
		{`"\uDBFF\uDFFF"`, "\U0010FFFF"}, {`"\uD7FF\uE000"`, "\uD7FF\uE000"}, {`"\/\"\\"`, `/"\`}, {`"\b\f\n\r\t"`, "\x08\x0C\x0A\x0D\x09"},
	} {
		checkScan(t, c.s, c.want, strings.LastIndex(strings.TrimSuffix(c.s, ` "a"`), `"`)+1, api.OK)
	}
}

// TestScanThatBreaksOff: at every place of what is right, more must come.
func TestScanThatBreaksOff(t *testing.T) {
	for _, s := range wholes() {
		for n := range len(s) {
			checkScan(t, s[:n], "", n, api.ErrShort)
		}
	}
}

func TestScanOfWrong(t *testing.T) {
	for _, c := range []struct {
		s  string
		at int
	}{
		{"a", 0}, {" \"a\"", 0}, {"'a'", 0}, {"\\\"", 0}, {"\x00", 0}, {"\xFF", 0}, {"\u20AC", 0},
		{"\"a\x1F", 2}, {"\"\x00\"", 1}, {"\"a\nb\"", 2}, {`"\x`, 2}, {`"\B`, 2}, {`"\N`, 2}, {`"\U0041"`, 2}, {`"\0"`, 2}, {`"\'"`, 2}, {`"\v"`, 2},
		{`"\a"`, 2}, {`"\ "`, 2}, {"\"\\\n", 2}, {"\"\\\x08", 2}, {"\"\\\x00", 2}, {"\"\\\xC3", 2},
		{`"\ug`, 3}, {`"\u0g`, 4}, {`"\u00G0"`, 5}, {`"\u000"`, 6}, {`"\u+000"`, 3}, {`"\u-`, 3}, {`"\u 041"`, 3}, {`"\u0_41"`, 4}, {"\"\\u004\x00", 6},
		{`"\uDC00"`, 4}, {`"\uDFFF"`, 4}, {`"\udc`, 4}, {`"\uDE00\uD800"`, 4}, {`"\uDf`, 4},
		{`"\uD800x`, 7}, {`"\uD800"`, 7}, {`"\uDBFF\n"`, 8}, {`"\uD800\\uDC00"`, 8}, {`"\uD800\U`, 8}, {`"\uD800\u0041"`, 9}, {`"\uD800\uE000"`, 9},
		{`"\uD800\uD800\uDC00"`, 10}, {`"\uD800\uDBFF"`, 10}, {`"\ud800\udb`, 10}, {`"\uD800\uDg`, 10}, {`"\uD800\uDC0g`, 12},
		{"\"\\uD800\xED\xB0\x80\"", 7}, {"\"\xED\xA0\x80\\uDC00\"", 2},
		{"\"\xFF", 1}, {"\"a\x80\"", 2}, {"\"\xC3\"", 2}, {"\"\xC3\\n\"", 2}, {"\"\xE2\x82\"", 3}, {"\"\xE2\x82\x00\"", 3}, {"\"\xF0\x9F\x98\\\"", 4},
		{"\"\xC3\xA4\xC3\xC3\"", 4}, {"\"\xED\xA0\"", 2}, {"\"\xE2\x28\xFF", 2}, {"\"a\xFF\x00\"", 2},
	} {
		checkScan(t, c.s, "", c.at, api.ErrForm)
		// What stands behind the wrong byte is not looked at, and up to it
		// more must come.
		checkScan(t, c.s[:c.at+1]+"\xFF\"\\", "", c.at, api.ErrForm)
		checkScan(t, c.s[:c.at], "", c.at, api.ErrShort)
	}
}

func TestScanOfEachEscape(t *testing.T) {
	for b := range 256 {
		checkAsWanted(t, "\"\\"+string([]byte{byte(b)}))
		checkAsWanted(t, "\"\\"+string([]byte{byte(b)})+"x\"")
	}
	for code := range 0x10000 {
		digits := strconv.FormatInt(0x10000|int64(code), 16)[1:]
		s := `"\u` + digits + `"`
		if code%3 == 0 {
			s = `"\u` + strings.ToUpper(digits) + `"`
		}
		switch {
		case 0xD800 <= code && code <= 0xDBFF:
			checkScan(t, s, "", 7, api.ErrForm)
			for _, low := range []int{0xDC00, 0xDC01, 0xDFFE, 0xDFFF, 0xDC00 + code&0x3FF} {
				whole := s[:7] + `\u` + strconv.FormatInt(int64(low), 16) + `"`
				checkScan(t, whole, string(rune(0x10000+(code-0xD800)*0x400+(low-0xDC00))), 14, api.OK)
			}
		case 0xDC00 <= code && code <= 0xDFFF:
			checkScan(t, s, "", 4, api.ErrForm)
			first := 0xD800 + code&0x3FF
			whole := `"\u` + strconv.FormatInt(int64(first), 16) + `\u` + digits + `"`
			checkScan(t, whole, string(rune(0x10000+(first-0xD800)*0x400+(code-0xDC00))), 14, api.OK)
		default:
			checkScan(t, s, string(rune(code)), 8, api.OK)
			wantAt := 10
			if code>>12 != 0xD {
				wantAt = 9
			}
			checkScan(t, `"\udbff`+s[1:], "", wantAt, api.ErrForm)
		}
	}
}

// TestScanOfEachText: all short texts of bytes at which anything changes.
func TestScanOfEachText(t *testing.T) {
	signs := "\"\\/bfnrtu0789aABCdDEFgx\x00\x1F\x20\x7F\x80\x9F\xA0\xBF\xC1\xC3\xE0\xE2\xED\xF0\xF4\xFF"
	for i := range len(signs) {
		for j := range len(signs) {
			s := signs[i:i+1] + signs[j:j+1]
			checkAsWanted(t, s)
			checkAsWanted(t, "\""+s)
			checkAsWanted(t, "\"a\xE2"+s)
			checkAsWanted(t, "\"\\u"+s+"00\"")
			checkAsWanted(t, "\"\\uD8"+s+"\\uDC00\"")
			checkAsWanted(t, "\"\\uDBFF"+s+"DC00\"")
			checkAsWanted(t, "\"\\uDBFF\\u"+s+"ff\"")
		}
	}
}

// TestScanWithAByteChanged: each byte in each place of a right string.
func TestScanWithAByteChanged(t *testing.T) {
	for _, s := range wholes() {
		for i := range len(s) {
			for b := range 256 {
				checkAsWanted(t, s[:i]+string([]byte{byte(b)})+s[i+1:])
			}
			checkAsWanted(t, s[:i]+s[i+1:])
			checkAsWanted(t, s[:i]+s[i:i+1]+s[i:])
		}
	}
}

func TestScanOfNothing(t *testing.T) {
	checkScan(t, "", "", 0, api.ErrShort)
	checkScan(t, "\"", "", 1, api.ErrShort)
	checkScan(t, "\"\"", "", 2, api.OK)
}

func TestScanOfLong(t *testing.T) {
	part, said := "\\n\\uD83D\\uDE00\\\"a\u20AC", "\n\U0001F600\"a\u20AC"
	const n = 1 << 16
	long := "\"" + strings.Repeat(part, n)
	checkScan(t, long+"\"rest", strings.Repeat(said, n), len(long)+1, api.OK)
	checkScan(t, long, "", len(long), api.ErrShort)
	checkScan(t, long+"\x1F\"", "", len(long), api.ErrForm)
	if _, at, e := esc.Scan(long + "\xE2\x82"); at != len(long)+2 || e != api.ErrShort {
		t.Errorf("Scan of UTF-8 that breaks off: %d, %v", at, e)
	}
}
