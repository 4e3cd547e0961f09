package esc_test

import (
	"encoding/json"
	"strings"
	"testing"

	"glossator/api"
	"glossator/esc"
)

func checkQuote(t *testing.T, s, want string) {
	t.Helper()
	if got, e := esc.Quote(s); got != want || e != api.OK {
		t.Fatalf("Quote of %+q: %+q, %v, want %+q", s, got, e, want)
	}
}

func TestQuoteOfEachByte(t *testing.T) {
	for b := range 0x80 {
		s := string([]byte{byte(b)})
		checkQuote(t, s, "\""+wantInside(byte(b))+"\"")
		checkQuote(t, "x"+s+s+"\u20AC", "\"x"+wantInside(byte(b))+wantInside(byte(b))+"\u20AC\"")
	}
	for _, c := range []struct{ s, want string }{
		{"", `""`}, {"\x01", `"\u0001"`}, {"\x1f\x0b\x1a", `"\u001f\u000b\u001a"`}, {"\b\f\n\r\t", `"\b\f\n\r\t"`},
		{"\"\\/", `"\"\\/"`}, {"\x7f", "\"\x7f\""}, {"<&>'", `"<&>'"`},
	} {
		checkQuote(t, c.s, c.want)
	}
}

func TestQuoteOfRight(t *testing.T) {
	for _, s := range rightTexts() {
		checkQuote(t, s, wantQuote(s))
		var back string
		if err := json.Unmarshal([]byte(wantQuote(s)), &back); err != nil || back != s {
			t.Errorf("the library reads %+q: %+q, %v", wantQuote(s), back, err)
		}
	}
	for point := range rune(0x110000) {
		if point == 0xD800 {
			point = 0xE000
		}
		if s := string(point); point >= 0x80 {
			checkQuote(t, s, "\""+s+"\"")
		}
	}
	long := strings.Repeat("\u20AC\n", 1<<17)
	checkQuote(t, long, "\""+strings.Repeat("\u20AC\\n", 1<<17)+"\"")
}

func TestQuoteOfWrong(t *testing.T) {
	for _, s := range wrongTexts() {
		if got, e := esc.Quote(s); got != "" || e != api.ErrForm {
			t.Errorf("Quote of % X: %+q, %v, want %v", s, got, e, api.ErrForm)
		}
	}
}

// TestScanUndoesQuote: whatever stands behind.
func TestScanUndoesQuote(t *testing.T) {
	behinds := []string{"", "x", "\"", "\\", "\\\"", ",\"a\"", "\x00", "\x80", "\xFF\xFF", "\xA9", "\u20AC", "\n", "\\uDC00\""}
	texts := rightTexts()
	c := chance(88172645463325252)
	for range 3000 {
		texts = append(texts, c.text(12))
	}
	for b := range 256 {
		behinds = append(behinds, string([]byte{byte(b)}))
	}
	for _, s := range texts {
		q, e := esc.Quote(s)
		if e != api.OK || q != wantQuote(s) {
			t.Fatalf("Quote of %+q: %+q, %v", s, q, e)
		}
		for _, behind := range behinds {
			checkScan(t, q+behind, s, len(q), api.OK)
		}
		for n := range len(q) {
			checkScan(t, q[:n], "", n, api.ErrShort)
		}
	}
}
