package json_test

import (
	"strconv"
	"strings"
	"testing"

	"glossator/api"
)

// checkTwice asks for a text with a key twice, up to whose last quote is what is
// ahead.
func checkTwice(t *testing.T, ahead, behind string) {
	t.Helper()
	at := len(ahead) - 1
	s := ahead + behind
	checkRefused(t, s, once, at, api.ErrForm)
	checkRefused(t, ahead, once, at, api.ErrForm)
	for _, other := range []string{"x", ":", "}", "\"", "\xFF"} {
		checkRefused(t, ahead+other, once, at, api.ErrForm)
	}
	checkRefused(t, s, api.Limits{Depth: api.MaxDepth, Size: at + 1, Once: true}, at, api.ErrForm)
	// Till the quote is there, or where it may not be looked at, it might be
	// another key.
	checkRefused(t, s, api.Limits{Depth: api.MaxDepth, Size: at, Once: true}, at, api.ErrLimit)
	checkRefused(t, ahead[:at], once, at, api.ErrShort)
	checkAsWanted(t, ahead[:at]+"x\":1", once)
	// If keys may be the same, it is taken.
	v, _, e := wantDecode([]byte(s), most)
	if e != api.OK {
		t.Fatalf("%s is no text: %v", short(s), e)
	}
	checkTaken(t, s, most, v)
}

func TestOnce(t *testing.T) {
	for _, x := range []struct{ ahead, behind string }{
		{`{"a":1,"a"`, `:2}`}, {`{"a":1,"a"`, `:1}`}, {`{"":1,""`, `:2}`}, {`{"a":1 , "a"`, " : 2}"}, {"{\n\t\"a\" : null,\n\t\"a\"", ":null}"},
		// With others between, and not the first.
		{`{"a":1,"b":2,"a"`, `:3}`}, {`{"a":1,"b":2,"c":3,"d":4,"a"`, `:5}`}, {`{"b":1,"a":2,"a"`, `:3}`}, {`{"b":1,"a":2,"c":3,"a"`, `:4,"e":5}`}, {`{"a":1,"b":2,"b"`, `:3,"a":4}`}, {`{"a":1,"a"`, `:2,"a":3}`},
		// By other escapes.
		{`{"a":1,"\u0061"`, `:2}`}, {`{"\u0061":1,"a"`, `:2}`}, {`{"/":1,"\/"`, `:2}`}, {`{"\n":1,"\u000a"`, `:2}`}, {`{"\u000A":1,"\n"`, `:2}`}, {`{"\"":1,"\u0022"`, `:2}`}, {`{"\\":1,"\u005C"`, `:2}`}, {`{"\u20ac":1,"\u20AC"`, `:2}`},
		{`{"` + "\u20AC" + `":1,"\u20AC"`, `:2}`}, {`{"\ud83d\ude00":1,"` + "\U0001F600" + `"`, `:2}`}, {`{"\uD83D\uDE00":1,"\ud83d\ude00"`, `:2}`}, {`{"abc":1,"a\u0062c"`, `:2}`}, {`{"\u0000":1,"\u0000"`, `:2}`},
		// Whatever the values are.
		{`{"a":[],"a"`, `:{}}`}, {`{"a":{},"a"`, `:[]}`}, {`{"a":"a","a"`, `:"a"}`}, {`{"a":{"a":1},"a"`, `:2}`}, {`{"a":[{"b":1}],"b":2,"a"`, `:3}`}, {`{"a":{"b":{"c":1}},"a"`, `:{"b":{"c":1}}}`},
		// In a map within.
		{`[{"a":1,"a"`, `:2}]`}, {`[{"a":1},{"a":1,"a"`, `:2}]`}, {`[1,[{"b":1,"b"`, `:2}]]`}, {`{"a":{"b":1,"b"`, `:2}}`}, {`{"a":{"a":1,"a"`, `:2}}`}, {`{"a":{"b":1},"b":{"b":1,"c":2,"b"`, `:3}}`}, {`{"x":[{"y":{"a":1,"a"`, `:2}}]}`}, {`{"a":1,"b":{"c":2,"c"`, `:3},"a":4}`},
		{strings.Repeat("[", 62) + `{"a":1,"a"`, `:2}` + strings.Repeat("]", 62)}, {strings.Repeat(`{"a":`, 63) + `{"a":1,"a"`, ":2}" + strings.Repeat("}", 63)},
		{`{"` + strings.Repeat("k", 3000) + `":1,"` + strings.Repeat("k", 3000) + `"`, ":2}"},
	} {
		checkTwice(t, x.ahead, x.behind)
	}
}

// TestOnceOfOthers: keys that are not the same, and the same ones in other maps.
func TestOnceOfOthers(t *testing.T) {
	for _, s := range []string{
		`{}`, `{"a":1}`, `{"a":1,"b":2}`, `{"a":1,"A":2}`, `{"a":1,"aa":2,"aaa":3,"":4}`, `{"a":1,"a\u0000":2,"\u0000a":3,"\u0000":4}`, `{"a":1," a":2,"a ":3}`, `{"\n":1,"n":2,"\\n":3}`, `{"\u00e4":1,"a\u0308":2}`, `{"\u00df":1,"ss":2}`, `{"1":1,"1.0":2,"01":3}`, `{"/":1,"\\/":2,"\\":3}`,
		`{"a":{"a":{"a":{}}}}`, `{"a":{"b":1},"b":{"a":1}}`, `[{"a":1},{"a":2}]`, `[{"a":1,"b":2},[{"a":1}],{"b":1,"a":2}]`, `{"a":[{"a":1},{"a":2}],"b":[{"a":1}]}`, `{"a":{"b":1,"c":2},"b":{"b":1},"c":3}`, `{"a":"b","b":"a","c":"c"}`, `["a","a","a"]`, `{"a":["a","a"]}`,
		strings.Repeat(`{"a":`, 64) + "1" + strings.Repeat("}", 64),
	} {
		v, _, e := wantDecode([]byte(s), most)
		if e != api.OK {
			t.Fatalf("%s is no text: %v", s, e)
		}
		checkTaken(t, s, once, v)
		checkAsWanted(t, s, once)
	}
}

// TestOnceFirstError: what errs ahead of the last quote is told, and what errs
// behind it is not.
func TestOnceFirstError(t *testing.T) {
	for _, x := range []struct {
		s  string
		at int
	}{
		{`{"a":1,"a\x"`, 10}, {"{\"a\":1,\"a\n\"", 9}, {"{\"a\":1,\"a\xC3\"", 10}, {`{"a":1 "a"`, 7}, {`{"a":1,,"a"`, 7}, {`{"a":x,"a"`, 5}, {`{"a":1,'a'`, 7}, {`{"a":1,"\ud83d"`, 14},
		{`{"a":1,"a":x`, 9}, {`{"a":1,"a"]`, 9}, {`{"a":1,"a":1e400}`, 9}, {`{"a":1,"a":[[[`, 9}, {`{"a":{"b":1,"b":2},"a":3}`, 14}, {`{"a":{"b":1,"c":2},"a":{"c":3,"c":4}}`, 21},
	} {
		checkRefused(t, x.s, once, x.at, api.ErrForm)
		checkAsWanted(t, x.s, once)
	}
	checkRefused(t, `{"a":1e400,"a":1}`, once, 5, api.ErrLimit)
	checkRefused(t, `{"a":[{"b":1,"b":2}]}`, api.Limits{Depth: 2, Size: 99, Once: true}, 6, api.ErrLimit)
	checkRefused(t, `{"a":1,"a":[]}`, api.Limits{Depth: 1, Size: 99, Once: true}, 9, api.ErrForm)
}

// TestOnceAtMostValues: a key that is one too many errs with its first byte,
// ahead of its last quote.
func TestOnceAtMostValues(t *testing.T) {
	var keys strings.Builder
	count := 0
	for ; 1+2*(count+1) <= api.MaxNodes-1; count++ {
		keys.WriteString(`"` + strconv.Itoa(count) + `":0,`)
	}
	// The list and the map, and so many pairs, are as many values as may be.
	ahead := "[{" + keys.String()
	checkRefused(t, ahead+`"0"`, once, len(ahead), api.ErrLimit)
	checkRefused(t, ahead+`"0`, once, len(ahead)+2, api.ErrShort)
	checkRefused(t, ahead+`"x"`, once, len(ahead), api.ErrLimit)
	// Without the list a key has room, but what it stands for has none.
	ahead = ahead[1:]
	checkRefused(t, ahead+`"0"`, once, len(ahead)+2, api.ErrForm)
	checkRefused(t, ahead+`"x":`, once, len(ahead)+4, api.ErrShort)
	checkRefused(t, ahead+`"x":1`, once, len(ahead)+4, api.ErrLimit)
	checkRefused(t, ahead+`"0":1`, most, len(ahead)+4, api.ErrLimit)
}

// TestOnceOfMany: maps of few keys, many of them there twice.
func TestOnceOfMany(t *testing.T) {
	c := chance(155)
	counts := map[api.Errno]int{}
	for range 30000 {
		s := c.text(4)
		checkAsWanted(t, s, once)
		checkAsWanted(t, s, api.Limits{Depth: c.below(6), Size: c.below(len(s) + 2), Once: true})
		_, _, e := wantDecode([]byte(s), once)
		counts[e]++
	}
	if counts[api.OK] < 5000 || counts[api.ErrForm] < 2000 {
		t.Fatalf("taken %d, refused %d", counts[api.OK], counts[api.ErrForm])
	}
}
