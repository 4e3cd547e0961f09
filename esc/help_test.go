package esc_test

import (
	"encoding/json"
	"regexp"
	"strings"
	"testing"
	"unicode/utf8"

	"glossator/api"
	"glossator/esc"
)

// quoted is a whole quoted string, but for its UTF-8.
var quoted = regexp.MustCompile(`^"(?s:[^"\\\x00-\x1F]|\\["\\/bfnrt]|\\u[0-9abcefABCEF][0-9a-fA-F]{3}|` +
	`\\u[dD][0-7][0-9a-fA-F]{2}|\\u[dD][89abAB][0-9a-fA-F]{2}\\u[dD][c-fC-F][0-9a-fA-F]{2})*"$`)

// isWhole tells whether s is a quoted string, with nothing behind it.
func isWhole(s string) bool {
	return utf8.ValidString(s) && quoted.MatchString(s)
}

// endings are such that any beginning of a quoted string is a whole one with
// one of them behind it.
func endings() []string {
	out := []string{`"`, `""`, "\x80\"", "\x80\x80\"", "\x80\x80\x80\"", "\xA0\x80\"", "\x90\x80\x80\""}
	for _, s := range []string{`\uD800\uDC00"`, `\u0000"`, `\n"`} {
		for i := range len(s) {
			out = append(out, s[i:])
		}
	}
	return out
}

// canBegin tells whether a quoted string can begin with s.
func canBegin(s string, ends []string) bool {
	for _, end := range ends {
		if isWhole(s + end) {
			return true
		}
	}
	return false
}

// wantScan is what Scan is to tell, byte by byte by the document's words.
func wantScan(s string) (string, int, api.Errno) {
	ends := endings()
	for n := 1; n <= len(s); n++ {
		if isWhole(s[:n]) {
			return saidBy(s[:n]), n, api.OK
		}
		if !canBegin(s[:n], ends) {
			return "", n - 1, api.ErrForm
		}
	}
	return "", len(s), api.ErrShort
}

// saidBy is what the library reads of a whole quoted string.
func saidBy(s string) string {
	var out string
	if err := json.Unmarshal([]byte(s), &out); err != nil {
		panic(err)
	}
	return out
}

// checkScan asks Scan for just what is wanted.
func checkScan(t *testing.T, s, text string, at int, e api.Errno) {
	t.Helper()
	gotText, gotAt, got := esc.Scan(s)
	if gotText != text || gotAt != at || got != e {
		t.Fatalf("Scan of %+q: %+q, %d, %v, want %+q, %d, %v", s, gotText, gotAt, got, text, at, e)
	}
}

// checkAsWanted asks Scan for what the document's words tell.
func checkAsWanted(t *testing.T, s string) {
	t.Helper()
	text, at, e := wantScan(s)
	checkScan(t, s, text, at, e)
}

// wantInside is how the byte b stands between quotes, by the document's words.
func wantInside(b byte) string {
	switch b {
	case 0x22:
		return "\\\""
	case 0x5C:
		return "\\\\"
	case 0x08:
		return "\\b"
	case 0x0C:
		return "\\f"
	case 0x0A:
		return "\\n"
	case 0x0D:
		return "\\r"
	case 0x09:
		return "\\t"
	}
	if b < 0x20 {
		return "\\u00" + string("01"[b/16]) + string("0123456789abcdef"[b%16])
	}
	return string([]byte{b})
}

func wantQuote(s string) string {
	var out strings.Builder
	for i := range len(s) {
		out.WriteString(wantInside(s[i]))
	}
	return "\"" + out.String() + "\""
}

// rightTexts have code points of all lengths, and bytes of all kinds.
func rightTexts() []string {
	var low strings.Builder
	for b := range rune(0x81) {
		low.WriteRune(b)
	}
	return []string{
		"", "a", "plain text", "\"", "\\", "/", "\"\"", "\\\"", "a\"b\\c/d", "\\u0041", "\\n", "\b\f\n\r\t", "\x00", "\x1F\x20", "\x7F\u0080",
		"\u00E4\u07FF\u0800\u20AC", "\uD7FF\uE000\uFFFD\uFFFF", "\u2028\u2029\uFEFF", "\U00010000\U0001F600\U0010FFFF", "\u20AC\"\u20AC\\\U0001F600\n",
		low.String(), strings.Repeat("\\\"\u20AC\x01", 50),
	}
}

// wrongTexts are no right UTF-8.
func wrongTexts() []string {
	return []string{
		"\x80", "\xC0\x80", "\xC1\xBF", "\xFF", "a\xFFb", "\xC3\x28", "\xE0\x9F\xBF", "\xE2\x82\x28", "\xED\xA0\x80", "\xED\xA0\xBD\xED\xB8\x80",
		"\xF0\x8F\xBF\xBF", "\xF4\x90\x80\x80", "\xF5\x80\x80\x80", "\xC3", "abc\xE2\x82", "\"\xF0\x9F\x98", "\u20AC\x80", "\n\\\xC2",
	}
}

// wholes are quoted strings with all that can stand inside.
func wholes() []string {
	return []string{
		`""`, `"a"`, `"\""`, `"\\"`, `"\/"`, `"\b\f\n\r\t"`, `"/"`, `"\u0000"`, `"\u001f"`, `"\u0022\u005C"`, `"\u00e4\u00E4"`, `"\u20ac\u20AC"`,
		`"\uabcd\uEF01\uFFFF"`, `"\uD7FF\uE000"`, `"\uD800\uDC00"`, `"\uDBFF\uDFFF"`, `"\ud83d\ude00"`, `"\uD83d\uDe00x\uDaAa\uDdDd"`,
		"\"\u00E4\u20AC\U0001F600\"", "\"\x7F\u0080\uFFFF\U0010FFFF\"", "\"\\n\u20AC\\\"\\uD800\\uDFFF\U00010000/\"",
	}
}

// chance tells numbers that look like chance but are the same in each run.
type chance uint64

func (c *chance) next(n int) int {
	*c ^= *c << 13
	*c ^= *c >> 7
	*c ^= *c << 17
	return int((uint64(*c) >> 11) % uint64(n))
}

// text is a right one of up to n code points, of all lengths.
func (c *chance) text(n int) string {
	var out strings.Builder
	for range c.next(n + 1) {
		point := rune(c.next(0x80))
		switch c.next(4) {
		case 0:
			point = rune(c.next(0x3000))
		case 1:
			point = rune(c.next(utf8.MaxRune + 1))
		}
		out.WriteRune(point)
	}
	return out.String()
}
