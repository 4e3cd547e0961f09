package token_test

import (
	"slices"
	"strings"
	"testing"

	"glossator/api"
	"glossator/token"
)

// chance tells numbers that look like chance but are the same in each run.
type chance uint64

func (c *chance) below(n int) int {
	*c ^= *c << 13
	*c ^= *c >> 7
	*c ^= *c << 17
	return int((uint64(*c) >> 11) % uint64(n))
}

func (c *chance) oneOf(list []string) string {
	return list[c.below(len(list))]
}

// blanks are none, or some.
func (c *chance) blanks() string {
	var out strings.Builder
	for range max(0, c.below(5)-2) {
		out.WriteByte("\t\n\r "[c.below(4)])
	}
	return out.String()
}

// changed is s with one byte left out, put in or made into another.
func (c *chance) changed(s string) string {
	at := c.below(len(s) + 1)
	b := []string{string([]byte{byte(c.below(256))}), c.oneOf(wholes())[:1], ""}[c.below(3)]
	return s[:at] + b + s[min(len(s), at+c.below(2)):]
}

func signs() []string {
	return []string{"[", "]", "{", "}", ":", ","}
}

func words() []string {
	return []string{"null", "true", "false"}
}

func numbers() []string {
	return []string{
		"0", "-0", "7", "-7", "10", "-10", "1234567890", "-98765432109876543210", "0.5", "-0.5", "1.0", "-10.25", "0.001", "1.500",
		"0e0", "1e5", "1E5", "1e+5", "-1E+5", "1e-5", "-1E-05", "1.5e10", "-1.5E+10", "0.0e-0", "1e400", "-1e99999",
	}
}

func quoted() []string {
	return []string{
		`""`, `"a"`, `" "`, `"null"`, `"[1]"`, `"plain text"`, `"\""`, `"\\"`, `"\/"`, `"/"`, `"\b"`, `"\f"`, `"\n"`, `"\r"`, `"\t"`, `"a\"b\\c"`,
		`"\u0041"`, `"\u0000"`, `"\u20ac"`, `"\u20AC"`, `"\uD7FF\uE000"`, `"\ud83d\uDE00"`, `"\uD800\uDC00"`, `"\uDBFF\uDFFF"`,
		"\"\u00E4\"", "\"\u20AC\"", "\"\U0001F600\"", "\"\u0080\u07FF\u0800\uD7FF\uE000\uFFFF\U00010000\U0010FFFF\"", "\"\x7F\"", "\"a\u20AC\\n\\u00e4\U0001F600\"",
	}
}

// wholes are tokens of all kinds.
func wholes() []string {
	return slices.Concat(signs(), words(), numbers(), quoted())
}

// blankRuns are none of blanks, each of them, and many.
func blankRuns() []string {
	return []string{"", "\t", "\n", "\r", " ", "  ", "\r\n\t ", strings.Repeat(" \n", 40)}
}

// allBytes are texts of each byte there is.
func allBytes() []string {
	out := make([]string, 256)
	for b := range out {
		out[b] = string([]byte{byte(b)})
	}
	return out
}

// checkNext asks Next for just what is wanted.
func checkNext(t *testing.T, s string, at int, want token.Token, place int, e api.Errno) {
	t.Helper()
	before := strings.Clone(s)
	got, gotPlace, gotE := token.Next(s, at)
	if got != want || gotPlace != place || gotE != e {
		t.Fatalf("Next(%+q, %d): %+v, %d, %v, want %+v, %d, %v", s, at, got, gotPlace, gotE, want, place, e)
	}
	if s != before {
		t.Fatalf("Next(%+q, %d): the text became %+q", before, at, s)
	}
}

// checkNextAsWanted asks Next for what the document's words tell.
func checkNextAsWanted(t *testing.T, g *grammar, s string, at int) {
	t.Helper()
	want, place, e := g.wantNext(s, at)
	checkNext(t, s, at, want, place, e)
}

// checkEach asks Next at each place of s, and at those that are none.
func checkEach(t *testing.T, g *grammar, s string) {
	t.Helper()
	for at := -1; at <= len(s)+1; at++ {
		checkNextAsWanted(t, g, s, at)
	}
}

// checkList asks List for just what is wanted.
func checkList(t *testing.T, s string, want []token.Token, place int, e api.Errno) {
	t.Helper()
	before := strings.Clone(s)
	got, gotPlace, gotE := token.List(s)
	if !slices.Equal(got, want) || gotPlace != place || gotE != e {
		t.Fatalf("List(%+q): %+v, %d, %v, want %+v, %d, %v", s, got, gotPlace, gotE, want, place, e)
	}
	if s != before {
		t.Fatalf("List(%+q): the text became %+q", before, s)
	}
}

// checkListAsWanted asks List for what the document's words tell.
func checkListAsWanted(t *testing.T, g *grammar, s string) {
	t.Helper()
	want, place, e := g.wantList(s)
	checkList(t, s, want, place, e)
}

// checkAll asks both calls for what the document's words tell.
func checkAll(t *testing.T, g *grammar, s string) {
	t.Helper()
	checkEach(t, g, s)
	checkListAsWanted(t, g, s)
}
