package token_test

import (
	"math"
	"strings"
	"testing"

	"glossator/api"
	"glossator/token"
)

// none is what stands beside an error.
var none = token.Token{}

func TestNextOfPlaces(t *testing.T) {
	for _, s := range []string{"", " ", "1", "[1]", "x", "\xFF", `"a`} {
		for _, at := range []int{-1, -2, math.MinInt, len(s) + 1, len(s) + 2, math.MaxInt} {
			checkNext(t, s, at, none, 0, api.ErrArg)
		}
	}
	s := " [ 12,\"a\" "
	for at, want := range []token.Token{
		{Kind: '[', From: 1, To: 2}, {Kind: '[', From: 1, To: 2}, {Kind: 'N', From: 3, To: 5, Text: "12"}, {Kind: 'N', From: 3, To: 5, Text: "12"},
		{Kind: 'N', From: 4, To: 5, Text: "2"}, {Kind: ',', From: 5, To: 6}, {Kind: 'S', From: 6, To: 9, Text: "a"},
	} {
		checkNext(t, s, at, want, want.To, api.OK)
	}
	checkNext(t, s, 7, none, 7, api.ErrForm)
	checkNext(t, s, 8, none, 10, api.ErrShort)
	checkNext(t, s, 9, token.Token{From: 10, To: 10}, 10, api.OK)
	checkNext(t, s, 10, token.Token{From: 10, To: 10}, 10, api.OK)
}

// TestNextOfEnd: behind the last token stand blanks alone, or nothing.
func TestNextOfEnd(t *testing.T) {
	for _, ahead := range append(wholes(), "") {
		for _, run := range blankRuns() {
			s := ahead + run
			for at := len(ahead); at <= len(s); at++ {
				checkNext(t, s, at, token.Token{From: len(s), To: len(s)}, len(s), api.OK)
			}
		}
	}
}

// TestNextOfWholes: each token, behind blanks, and with something behind it
// that can't go on with it.
func TestNextOfWholes(t *testing.T) {
	for _, one := range wholes() {
		for _, run := range blankRuns() {
			for _, behind := range []string{"", " ", ",", "]", "\"", "n", "x", "\x00", "\xFF"} {
				s := run + one + behind
				want := wantToken(s, len(run), len(run)+len(one))
				for at := range len(run) + 1 {
					checkNext(t, s, at, want, want.To, api.OK)
				}
			}
		}
	}
}

// TestNextOfFirstBytes: of each byte there is, what it begins.
func TestNextOfFirstBytes(t *testing.T) {
	for b, one := range allBytes() {
		for _, run := range blankRuns() {
			s := run + one
			want, place, e := none, len(run), api.ErrForm
			switch {
			case strings.Contains("\t\n\r ", one):
				want, place, e = token.Token{From: len(s), To: len(s)}, len(s), api.OK
			case strings.Contains("[]{}:,", one):
				want, place, e = token.Token{Kind: byte(b), From: len(run), To: len(s)}, len(s), api.OK
			case '0' <= b && b <= '9':
				want, place, e = token.Token{Kind: 'N', From: len(run), To: len(s), Text: one}, len(s), api.OK
			case strings.Contains("ntf-\"", one):
				place, e = len(s), api.ErrShort
			}
			checkNext(t, s, 0, want, place, e)
			checkNext(t, s, len(run), want, place, e)
		}
	}
}

// TestNextOfOtherBlanks: what counts as a blank elsewhere is none here.
func TestNextOfOtherBlanks(t *testing.T) {
	for _, blank := range []string{"\x00", "\x08", "\x0B", "\x0C", "\x1C", "\x1F", "\x7F", "\x85", "\xA0", "\u0085", "\u00A0", "\u2003", "\u2028", "\u3000", "\uFEFF", "/", "//", "/**/", "#", ";"} {
		for _, run := range blankRuns() {
			checkNext(t, run+blank+"1", 0, none, len(run), api.ErrForm)
			checkNext(t, "1"+run+blank, 1, none, 1+len(run), api.ErrForm)
		}
	}
}

func TestNextOfWords(t *testing.T) {
	for _, word := range words() {
		kind := word[0]
		for cut := 1; cut < len(word); cut++ {
			checkNext(t, word[:cut], 0, none, cut, api.ErrShort)
			checkNext(t, "[ "+word[:cut], 1, none, 2+cut, api.ErrShort)
			for _, other := range allBytes() {
				if other[0] == word[cut] {
					continue
				}
				for _, rest := range []string{"", word[cut:], word[cut+1:]} {
					checkNext(t, word[:cut]+other+rest, 0, none, cut, api.ErrForm)
				}
			}
		}
		for _, behind := range append(allBytes(), word, "ull", "0x", "\u00E4") {
			checkNext(t, word+behind, 0, token.Token{Kind: kind, From: 0, To: len(word)}, len(word), api.OK)
		}
	}
	for _, s := range []string{"Null", "NULL", "nULL", "True", "tRUE", "False", "fALSE", "None", "nil", "undefined", "yes", "NaN", "nan", "Infinity", "simple(1)"} {
		place := 0
		if strings.Contains("ntf", s[:1]) {
			place = 1
		}
		checkNext(t, s, 0, none, place, api.ErrForm)
	}
}

func TestNextOfStrings(t *testing.T) {
	for _, x := range []struct{ s, text string }{
		{`""`, ""}, {`"a"`, "a"}, {`" "`, " "}, {`"\"\\\/\b\f\n\r\t"`, "\"\\/\b\f\n\r\t"}, {`"\u0041\u00e4\u20AC"`, "A\u00E4\u20AC"}, {`"\uD83D\uDE00"`, "\U0001F600"},
		{"\"\u00E4\u20AC\U0001F600\x7F\"", "\u00E4\u20AC\U0001F600\x7F"}, {`"[1, null]"`, "[1, null]"}, {`"\u0000"`, "\x00"},
	} {
		for _, behind := range []string{"", "\"", "a", "\x00", "\xFF", ":1"} {
			checkNext(t, " "+x.s+behind, 0, token.Token{Kind: 'S', From: 1, To: 1 + len(x.s), Text: x.text}, 1+len(x.s), api.OK)
		}
		for cut := 1; cut < len(x.s); cut++ {
			checkNext(t, " "+x.s[:cut], 0, none, 1+cut, api.ErrShort)
		}
	}
	for _, x := range []struct {
		s  string
		at int
	}{
		{"\"\x00\"", 1}, {"\"\x1F\"", 1}, {"\"\n\"", 1}, {"\"a\t\"", 2}, {`"\x"`, 2}, {`"\N"`, 2}, {`"\0"`, 2}, {`"\U0041"`, 2}, {`"a\u004"`, 7}, {`"\u00G0"`, 5}, {`"\u 041"`, 3},
		{`"\uDC00"`, 4}, {`"\uD800"`, 7}, {`"\uD800x"`, 7}, {`"\uD800\n"`, 8}, {`"\uD800\u0041"`, 9}, {`"\uD800\uD800"`, 10}, {`'a'`, 0}, {"\u201Ca\u201D", 0},
		{"\"\x80\"", 1}, {"\"\xC0\x80\"", 1}, {"\"\xC3(\"", 2}, {"\"\xC3\"", 2}, {"\"\xE2\x82\"", 3}, {"\"\xE2\x82\\n\"", 3}, {"\"\xED\xA0\x80\"", 2}, {"\"\xF4\x90\x80\x80\"", 2}, {"\"\xFF\"", 1},
	} {
		checkNext(t, x.s, 0, none, x.at, api.ErrForm)
		checkNext(t, "{\r\n"+x.s, 1, none, 3+x.at, api.ErrForm)
	}
}

func TestNextOfNumbers(t *testing.T) {
	for _, n := range numbers() {
		want := token.Token{Kind: 'N', From: 2, To: 2 + len(n), Text: n}
		for _, behind := range []string{"", " ", "-", "+", "x", "_", ",", "\"", "null", "\x00", "\xFF"} {
			checkNext(t, "[ "+n+behind, 1, want, want.To, api.OK)
		}
	}
	for _, x := range []struct {
		s  string
		to int
	}{
		{"00", 1}, {"01", 1}, {"-01", 2}, {"-00", 2}, {"0.5.5", 3}, {"1.5.", 3}, {"1e5.5", 3}, {"1e5e5", 3}, {"1e5-5", 3}, {"1-1", 1}, {"1+1", 1}, {"0x1F", 1}, {"1_000", 1}, {"1 0", 1}, {"1\u0661", 1},
		{"12345678901234567890123456789012345678901234567890x", 50},
	} {
		checkNext(t, x.s, 0, token.Token{Kind: 'N', From: 0, To: x.to, Text: x.s[:x.to]}, x.to, api.OK)
	}
	for _, s := range []string{"-", "0.", "-1.", "12e", "12E", "1e+", "1e-", "1.5e", "-1.5E-"} {
		checkNext(t, s, 0, none, len(s), api.ErrShort)
		checkNext(t, ": "+s, 1, none, 2+len(s), api.ErrShort)
		for _, wrong := range []string{".", "x", " ", ",", "]", "/", ":", "\"", "\x00", "\xFF"} {
			checkNext(t, s+wrong, 0, none, len(s), api.ErrForm)
			checkNext(t, ": "+s+wrong, 1, none, 2+len(s), api.ErrForm)
		}
	}
	for _, s := range []string{"+1", ".5", "e5", "E5", "/", "I", "Infinity", "N", "S", "\u0661", "\u22121"} {
		checkNext(t, s, 0, none, 0, api.ErrForm)
	}
	checkNext(t, "--1", 0, none, 1, api.ErrForm)
	checkNext(t, "-Infinity", 0, none, 1, api.ErrForm)
}

// TestNextOfFaults: each token cut at each place, and with another byte there,
// against the document's words.
func TestNextOfFaults(t *testing.T) {
	g := newGrammar()
	for _, one := range wholes() {
		for at := range len(one) + 1 {
			checkEach(t, g, one[:at])
			for _, other := range allBytes() {
				checkNextAsWanted(t, g, one[:at]+other, 0)
				checkNextAsWanted(t, g, one[:at]+other+one[min(at+1, len(one)):], 0)
				checkNextAsWanted(t, g, one[:at]+other+one[at:], 0)
			}
		}
	}
}
