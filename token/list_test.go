package token_test

import (
	"strings"
	"testing"

	"glossator/api"
	"glossator/token"
)

func TestListOfNone(t *testing.T) {
	for _, s := range blankRuns() {
		checkList(t, s, nil, len(s), api.OK)
	}
}

func TestListOfSome(t *testing.T) {
	checkList(t, "[1]", []token.Token{{Kind: '[', From: 0, To: 1}, {Kind: 'N', From: 1, To: 2, Text: "1"}, {Kind: ']', From: 2, To: 3}}, 3, api.OK)
	checkList(t, " {\"a\\n\" :\ttrue, \"\":[false,null ]\r\n}\n", []token.Token{
		{Kind: '{', From: 1, To: 2}, {Kind: 'S', From: 2, To: 7, Text: "a\n"}, {Kind: ':', From: 8, To: 9}, {Kind: 't', From: 10, To: 14}, {Kind: ',', From: 14, To: 15},
		{Kind: 'S', From: 16, To: 18}, {Kind: ':', From: 18, To: 19}, {Kind: '[', From: 19, To: 20}, {Kind: 'f', From: 20, To: 25}, {Kind: ',', From: 25, To: 26},
		{Kind: 'n', From: 26, To: 30}, {Kind: ']', From: 31, To: 32}, {Kind: '}', From: 34, To: 35},
	}, 36, api.OK)
	// What JSON lets stand behind what is not asked here.
	checkList(t, "]0-00nulltrue\"\"1", []token.Token{
		{Kind: ']', From: 0, To: 1}, {Kind: 'N', From: 1, To: 2, Text: "0"}, {Kind: 'N', From: 2, To: 4, Text: "-0"}, {Kind: 'N', From: 4, To: 5, Text: "0"},
		{Kind: 'n', From: 5, To: 9}, {Kind: 't', From: 9, To: 13}, {Kind: 'S', From: 13, To: 15}, {Kind: 'N', From: 15, To: 16, Text: "1"},
	}, 16, api.OK)
}

// TestListOfPairs: any token right behind any other, and with blanks between.
func TestListOfPairs(t *testing.T) {
	g := newGrammar()
	for _, one := range wholes() {
		for _, other := range wholes() {
			for _, run := range blankRuns()[:6] {
				checkListAsWanted(t, g, one+run+other)
			}
		}
	}
}

// TestListOfFaults: what errs first is told, wherever it stands.
func TestListOfFaults(t *testing.T) {
	faults := []struct {
		s     string
		place int
		short bool
	}{
		{"x", 0, false}, {"nul", 3, true}, {"nux", 2, false}, {"tru ", 3, false}, {"falsE", 4, false}, {"-", 1, true}, {"1.x", 2, false}, {"2e", 2, true}, {"\"a", 2, true},
		{"\"\n", 1, false}, {"\"\\u00G", 5, false}, {"\"\xC3", 2, true}, {"\"\xC3\"", 2, false}, {"\x00", 0, false}, {"\xEF\xBB\xBF", 0, false}, {"+1", 0, false}, {"'a'", 0, false},
	}
	for _, first := range faults {
		for _, ahead := range []string{"", " ", "[", "[1,\n", "{\"a\":null, \"\\u0041\" :"} {
			s := ahead + first.s
			place, e := len(ahead)+first.place, api.ErrForm
			if first.short {
				checkList(t, s, nil, len(s), api.ErrShort)
				continue
			}
			checkList(t, s, nil, place, e)
			for _, second := range faults {
				checkList(t, s+second.s, nil, place, e)
				checkList(t, s+" , "+second.s, nil, place, e)
			}
		}
	}
}

// TestListOfShort: all texts of few bytes of those that tokens have.
func TestListOfShort(t *testing.T) {
	g := newGrammar()
	bytes := []byte(" [,\"\\unle0-.e\x1F\xC3\x80x")
	var goOn func(s string, more int)
	goOn = func(s string, more int) {
		checkListAsWanted(t, g, s)
		checkNextAsWanted(t, g, s, 0)
		if more == 0 {
			return
		}
		for _, b := range bytes {
			goOn(s+string([]byte{b}), more-1)
		}
	}
	goOn("", 4)
}

// TestListOfTwoBytes: all texts of two bytes, at each place.
func TestListOfTwoBytes(t *testing.T) {
	g := newGrammar()
	for _, one := range allBytes() {
		for _, other := range allBytes() {
			checkAll(t, g, one+other)
		}
	}
}

func TestListOfMany(t *testing.T) {
	g := newGrammar()
	c := chance(141)
	for range 4000 {
		s := c.blanks()
		for range c.below(8) {
			s += c.oneOf(wholes()) + c.blanks()
		}
		checkListAsWanted(t, g, s)
		for range c.below(3) {
			s = c.changed(s)
		}
		checkAll(t, g, s)
	}
}

// TestListOfLong: a text of many bytes takes no longer for each of them than a
// short one.
func TestListOfLong(t *testing.T) {
	const many = 200000
	for _, one := range []string{"[", "1 ", "-0.5e1,", "null", `"a"`, `"\n":`, "\"\u20AC\"\n", " "} {
		s := strings.Repeat(one, many)
		list, place, e := token.List(s)
		each, _, _ := token.List(one)
		if len(list) != many*len(each) || place != len(s) || e != api.OK {
			t.Fatalf("List of %d times %+q: %d tokens, %d, %v", many, one, len(list), place, e)
		}
	}
	digits := strings.Repeat("7", many)
	checkList(t, "-"+digits, []token.Token{{Kind: 'N', From: 0, To: many + 1, Text: "-" + digits}}, many+1, api.OK)
	checkList(t, "\""+digits+"\"", []token.Token{{Kind: 'S', From: 0, To: many + 2, Text: digits}}, many+2, api.OK)
	checkList(t, strings.Repeat("[", many)+"x", nil, many, api.ErrForm)
	checkList(t, strings.Repeat("[", many)+"\"", nil, many+1, api.ErrShort)
}
