package json_test

import (
	library "encoding/json"
	"math"
	"strconv"
	"strings"
	"testing"
	"unicode/utf8"

	"glossator/api"
	"glossator/json"
)

// shape is a text with one place for a value.
type shape struct {
	ahead, behind string
	around        func(v api.Value) api.Value
}

// shapes are the value alone, within a list, as a map's value, and deep within.
func shapes() []shape {
	return []shape{
		{"", "", func(v api.Value) api.Value { return v }},
		{"[", "]", func(v api.Value) api.Value { return list(v) }},
		{"[null,", "]", func(v api.Value) api.Value { return list(null(), v) }},
		{"[", ",null]", func(v api.Value) api.Value { return list(v, null()) }},
		{"[[],", ",{}]", func(v api.Value) api.Value { return list(list(), v, pairs()) }},
		{`{"a":`, "}", func(v api.Value) api.Value { return of("a", v) }},
		{`{"a":1,"b":`, `,"c":{}}`, func(v api.Value) api.Value {
			return pairs(text("a"), whole(1), text("b"), v, text("c"), pairs())
		}},
		{`{"":[{"b":[`, `]}],"c":[]}`, func(v api.Value) api.Value { return pairs(text(""), list(of("b", list(v))), text("c"), list()) }},
		{strings.Repeat("[", 50), strings.Repeat("]", 50), func(v api.Value) api.Value { return within(50, v) }},
	}
}

// TestDecodeEachKind: in each shape, and cut at each byte.
func TestDecodeEachKind(t *testing.T) {
	for _, one := range said() {
		checkTaken(t, one.s, api.Limits{Depth: wantDepth(one.v), Size: len(one.s)}, one.v)
		for _, x := range shapes() {
			s, v := x.ahead+one.s+x.behind, x.around(one.v)
			checkAsWanted(t, s, most)
			checkTaken(t, s, most, v)
			checkTaken(t, s, api.Limits{Depth: wantDepth(v), Size: len(s), Once: true}, v)
			if x.ahead != "" {
				checkCuts(t, s)
			}
		}
	}
	for _, x := range shapes() {
		checkTaken(t, x.ahead+"[]"+x.behind, most, x.around(list()))
		checkTaken(t, x.ahead+"{}"+x.behind, most, x.around(pairs()))
		checkCuts(t, x.ahead+"[]"+x.behind)
		checkCuts(t, x.ahead+"{}"+x.behind)
		checkTaken(t, x.ahead+`{"a":1,"a":2}`+x.behind, most, x.around(pairs(text("a"), whole(1), text("a"), whole(2))))
		checkTaken(t, x.ahead+`{"b":[],"\u0061":{}}`+x.behind, most, x.around(pairs(text("b"), list(), text("a"), pairs())))
	}
}

// checkCuts cuts a text that ends with its last byte at each of its bytes, by
// its end and by l.Size.
func checkCuts(t *testing.T, s string) {
	t.Helper()
	for cut := range s {
		checkRefused(t, s[:cut], most, cut, api.ErrShort)
		checkRefused(t, s[:cut], size(cut), cut, api.ErrShort)
		checkRefused(t, s, size(cut), cut, api.ErrLimit)
		checkRefused(t, s[:cut+1], size(cut), cut, api.ErrLimit)
	}
}

// TestDecodeCuts: of texts of all kinds; a number alone is whole at each of its
// digits.
func TestDecodeCuts(t *testing.T) {
	c := chance(151)
	for range 400 {
		s := c.text(3)
		for cut := range len(s) + 1 {
			checkAsWanted(t, s[:cut], most)
			checkAsWanted(t, s, size(cut))
			checkAsWanted(t, s[:cut], size(cut+1))
		}
	}
}

// TestDecodeNone: no byte, and blanks alone.
func TestDecodeNone(t *testing.T) {
	for _, run := range blankRuns() {
		checkRefused(t, run, most, len(run), api.ErrShort)
		checkRefused(t, run, api.Limits{Size: len(run)}, len(run), api.ErrShort)
		if run != "" {
			checkRefused(t, run, api.Limits{Size: len(run) - 1}, len(run)-1, api.ErrLimit)
			checkRefused(t, run, api.Limits{}, 0, api.ErrLimit)
		}
	}
	v, at, e := json.Decode(nil, api.Limits{})
	if !same(v, api.Value{}) || at != 0 || e != api.ErrShort {
		t.Fatalf("Decode(nil): %s, %d, %v", told(v), at, e)
	}
}

// TestDecodeBlanks: ahead of, between and behind all tokens.
func TestDecodeBlanks(t *testing.T) {
	tokens := []string{"{", `"a"`, ":", "[", "null", ",", "1", ",", "-2.5", ",", `" "`, ",", "[", "]", ",", "{", "}", "]", ",", `"b"`, ":", "true", "}"}
	want := pairs(text("a"), list(null(), whole(1), f64(0xC004000000000000), text(" "), list(), pairs()), text("b"), truth(1))
	for _, run := range blankRuns() {
		s := run + strings.Join(tokens, run) + run
		checkTaken(t, s, api.Limits{Depth: 3, Size: len(s)}, want)
		checkRefused(t, s+"x", most, len(s), api.ErrForm)
		for place := range tokens {
			s := strings.Join(tokens[:place], "") + run + strings.Join(tokens[place:], "") + run
			checkTaken(t, s, most, want)
		}
		for _, one := range said() {
			checkTaken(t, run+one.s+run, most, one.v)
		}
	}
	// What counts as a blank elsewhere is none here.
	for _, blank := range []string{"\x00", "\x08", "\x0B", "\x0C", "\x1F", "\x7F", "\x85", "\xA0", "\u0085", "\u00A0", "\u2003", "\u2028", "\u3000", "\uFEFF", "/", "//x\n", "/**/", "#", ";"} {
		for place := range tokens {
			ahead := strings.Join(tokens[:place], "")
			checkRefused(t, ahead+blank+strings.Join(tokens[place:], ""), most, len(ahead), api.ErrForm)
			checkRefused(t, ahead+" \n"+blank, most, len(ahead)+2, api.ErrForm)
		}
	}
}

// TestDecodeWrong: the place of the first byte that can't be.
func TestDecodeWrong(t *testing.T) {
	for _, x := range []struct {
		s  string
		at int
	}{
		// Commas: one that lacks, one too many, ahead of the first, behind the last.
		{"[1,]", 3}, {"[1 2]", 3}, {"[null true]", 6}, {"[[] []]", 4}, {"[{} {}]", 4}, {`["a" "b"]`, 5}, {`["a""b"]`, 4}, {"[nullnull]", 5}, {"[1,,2]", 3}, {"[,1]", 1}, {"[,]", 1}, {"[ , 1]", 2}, {"[1, ]", 4}, {"[[],]", 4}, {"[1,2,,3]", 5}, {",", 0}, {",1", 0}, {"1,", 1}, {"[],", 2}, {"1 , 2", 2},
		{`{"a":1,}`, 7}, {`{"a":1 "b":2}`, 7}, {`{"a":1"b":2}`, 6}, {`{"a":[]"b":2}`, 7}, {`{"a":1,,"b":2}`, 7}, {`{,"a":1}`, 1}, {`{,}`, 1}, {`{"a":1, }`, 8}, {`{"a":,1}`, 5}, {`{"a",1}`, 4}, {`{"a":1,"b"}`, 10},
		// Colons likewise.
		{`{"a" 1}`, 5}, {`{"a"1}`, 4}, {`{"a"}`, 4}, {`{"a"[]}`, 4}, {`{"a""b"}`, 4}, {`{"a"::1}`, 5}, {`{"a": :1}`, 6}, {`{:"a"}`, 1}, {`{:}`, 1}, {`{:1}`, 1}, {`{"a":1:2}`, 6}, {`{"a":1,:2}`, 7}, {`{"a":}`, 5}, {`{"a": }`, 6}, {`["a":1]`, 4}, {"[:]", 1}, {"[1:2]", 2}, {":", 0}, {`"a":1`, 3}, {"1:", 1},
		// Keys that are no strings.
		{"{1:2}", 1}, {"{-1:2}", 1}, {"{null:1}", 1}, {"{true:1}", 1}, {"{false:1}", 1}, {"{[]:1}", 1}, {"{{}:1}", 1}, {"{{", 1}, {"{[", 1}, {"{a:1}", 1}, {"{'a':1}", 1}, {`{"a":1,2:3}`, 7}, {`{"a":1,null:3}`, 7}, {`{"a":1,[]:3}`, 7}, {`{"a":1,{}:3}`, 7}, {"{ 1", 2}, {"{nul", 1}, {"{-", 1},
		// Brackets: of what is not open, of the wrong kind, one too many.
		{"]", 0}, {"}", 0}, {" ]", 1}, {"1]", 1}, {"null}", 4}, {"[]]", 2}, {"[]}", 2}, {"{}}", 2}, {"{}]", 2}, {"[}", 1}, {"{]", 1}, {"[1}", 2}, {`{"a":1]`, 6}, {"[[}]", 2}, {"[[]}", 3}, {`{"a":[}`, 6}, {`{"a":{]`, 6}, {`{"a":[1}`, 7}, {`{"a":{"b":1]`, 11}, {`{"a"]`, 4}, {`{"a":]`, 5}, {"[1,}", 3}, {`{"a":1,]`, 7}, {"[{]", 2}, {"[{}}", 3}, {`[{"a":1]}`, 7},
		// A second value behind the first.
		{"1 2", 2}, {"1\n2", 2}, {"null null", 5}, {"nullnull", 4}, {"truefalse", 4}, {"[][]", 2}, {"[] []", 3}, {"{}{}", 2}, {"{} 1", 3}, {`"a""b"`, 3}, {`"a" "b"`, 4}, {`1"a"`, 1}, {`"a"1`, 3}, {"1[", 1}, {"1{", 1}, {"1null", 1}, {"null1", 4}, {"[]x", 2}, {"1 x", 2}, {"1-", 1}, {"1 -", 2}, {"1\x00", 1},
		// What begins no token.
		{"x", 0}, {"[x", 1}, {`{"a":x`, 5}, {"\x00", 0}, {"\xFF", 0}, {"\uFEFF1", 0}, {"'a'", 0}, {"+1", 0}, {".5", 0}, {"NaN", 0}, {"Infinity", 0}, {"-Infinity", 1}, {"undefined", 0}, {"N", 0}, {"Null", 0}, {"TRUE", 0}, {"[1;2]", 2}, {"[1,x]", 3}, {"/", 0}, {"[1/", 2}, {"(1)", 0}, {"\\", 0}, {"e1", 0}, {"[e", 1},
		// Tokens that go wrong.
		{"nux", 2}, {"nulL", 3}, {"tru ", 3}, {"trux", 3}, {"t]", 1}, {"falsy", 4}, {"[nul]", 4}, {`{"a":n}`, 6}, {"n ull", 1}, {"-x", 1}, {"--1", 1}, {"- 1", 1}, {"-]", 1}, {"01", 1}, {"00", 1}, {"-01", 2}, {"-00", 2}, {"1.", -1}, {"1.x", 2}, {"1.]", 2}, {"1..2", 2}, {"1.e5", 2}, {"1.-5", 2}, {"1ex", 2}, {"1e]", 2}, {"1e+x", 3}, {"1e--5", 3}, {"1e.5", 2}, {"1e5.5", 3}, {"1.5.5", 3}, {"1e5e5", 3}, {"0x10", 1}, {"1_000", 1}, {"1f", 1}, {"[1a]", 2}, {"[1-2]", 2}, {"[0-1]", 2}, {"0e", -1},
		{"\"\n", 1}, {"\"a\tb\"", 2}, {"\"\x00\"", 1}, {"\"\x1F\"", 1}, {`"\x"`, 2}, {`"\'"`, 2}, {"\"\\\n\"", 2}, {`"\u00G0"`, 5}, {`"\U0041"`, 2}, {`"\uD800"`, 7}, {`"\uD800x"`, 7}, {`"\uD800\n"`, 8}, {`"\uD800\u0041"`, 9}, {`"\uD800\uD800"`, 10}, {`"\uDC00"`, 4}, {"\"\xFF\"", 1}, {"\"\x80\"", 1}, {"\"\xC3\"", 2}, {"\"\xE2\x82\"", 3}, {"\"\xED\xA0\x80\"", 2}, {"\"\xC0\x80\"", 1}, {"\"\xF4\x90\x80\x80\"", 2}, {`{"\x":1}`, 3}, {"{\"\n\":1}", 2}, {`{"a":"\x"}`, 7}, {`["\uD800"]`, 8},
	} {
		if x.at < 0 {
			checkRefused(t, x.s, most, len(x.s), api.ErrShort)
			continue
		}
		checkAsWanted(t, x.s, most)
		checkRefused(t, x.s, most, x.at, api.ErrForm)
		checkRefused(t, x.s, once, x.at, api.ErrForm)
		checkRefused(t, x.s, size(x.at+1), x.at, api.ErrForm)
		checkRefused(t, x.s[:x.at+1], most, x.at, api.ErrForm)
		// What stands behind counts for nothing.
		for _, behind := range []string{"x", " ", "1", "]", "}", "\"", "\xFF", "[[[[", strings.Repeat("9", 2000)} {
			checkRefused(t, x.s[:x.at+1]+behind, most, x.at, api.ErrForm)
		}
		// All ahead of it is the limit's, if that ends there.
		checkRefused(t, x.s, size(x.at), x.at, api.ErrLimit)
		for cut := range x.at {
			if _, _, e := json.Decode([]byte(x.s[:cut]), most); e != api.OK && e != api.ErrShort {
				t.Fatalf("Decode(%s): %v", short(x.s[:cut]), e)
			}
		}
		// Within others it stands so much behind.
		for _, ahead := range []string{"[", "[[],", `{"a":`, "[null, ", `{"a":[{"b" : `} {
			checkAsWanted(t, ahead+x.s, most)
		}
	}
}

// TestDecodeFirstByte: a token that can't come errs with its first byte,
// whatever is wrong with it behind that.
func TestDecodeFirstByte(t *testing.T) {
	tokens := []string{"1", "-", "1.", "1e", "1e400", "01", "null", "nux", "n", "true", "t", "tx", "f", "fx", `"a"`, `"`, `"\`, `"\x`, "\"\xFF", "\"\n", "[", "{", "]", "}", ",", ":", strings.Repeat("8", 1300)}
	places := []struct{ ahead, takes string }{
		{"", `1ntf"[{`}, {"[", `1ntf"[{]`}, {"[1,", `1ntf"[{`}, {"[null", ",]"}, {"[[]", ",]"}, {"{", `"}`}, {`{"a"`, ":"}, {`{"a":`, `1ntf"[{`}, {`{"a":null`, ",}"}, {`{"a":{}`, ",}"}, {`{"a":null,`, `"`}, {"null", ""}, {"[]", ""}, {"{}", ""}, {`"a"`, ""}, {"1 ", ""}, {`{"a":1 `, ",}"},
	}
	for _, x := range places {
		for _, run := range blankRuns() {
			for _, token := range tokens {
				s := x.ahead + run + token
				checkAsWanted(t, s, most)
				kind := token[:1]
				if strings.Contains("-0123456789", kind) {
					kind = "1"
				}
				if !strings.Contains(x.takes, kind) {
					checkRefused(t, s, most, len(x.ahead+run), api.ErrForm)
					checkRefused(t, s[:len(x.ahead+run)+1], size(len(x.ahead+run)+1), len(x.ahead+run), api.ErrForm)
				} else if v, at, e := json.Decode([]byte(s), most); e == api.ErrForm && at == len(x.ahead+run) {
					t.Fatalf("Decode(%s): %s, %d, %v", short(s), told(v), at, e)
				}
			}
		}
	}
}

// TestDecodeWords: with each other byte at each place.
func TestDecodeWords(t *testing.T) {
	for _, word := range []string{"null", "true", "false"} {
		for _, x := range shapes() {
			for at := range word {
				checkRefused(t, x.ahead+word[:at], most, len(x.ahead)+at, api.ErrShort)
				for b := range 256 {
					s := x.ahead + word[:at] + string([]byte{byte(b)}) + word[at+1:] + x.behind
					if byte(b) == word[at] {
						checkAsWanted(t, s, most)
					} else if at > 0 {
						checkRefused(t, s, most, len(x.ahead)+at, api.ErrForm)
					} else {
						checkAsWanted(t, s, most)
					}
				}
			}
		}
	}
}

// TestDecodeEachByte: each byte there is, at each place of texts of all tokens.
func TestDecodeEachByte(t *testing.T) {
	for _, s := range []string{
		"[1,-2.5e+10,0]", `{"a":[null,{}],"b":true}`, ` { "\u00e4\ud83d\ude00" : -0.0 , "\n" : [ ] } `, `["\\","` + "\u20AC" + `",false]`, "1234", `"ab"`, "-0",
	} {
		for at := range len(s) {
			for b := range 256 {
				x := string([]byte{byte(b)})
				checkAsWanted(t, s[:at]+x+s[at+1:], once)
				checkAsWanted(t, s[:at]+x+s[at:], most)
				checkAsWanted(t, s[:at]+x, most)
				checkAsWanted(t, s[:at]+x+s[at+1:], size(at+1))
			}
			checkAsWanted(t, s[:at]+s[at+1:], most)
		}
	}
}

// TestDecodeShort: all texts of few bytes of those that tokens have.
func TestDecodeShort(t *testing.T) {
	var goOn func(s string, letters string, more int)
	goOn = func(s string, letters string, more int) {
		checkAsWanted(t, s, most)
		checkAsWanted(t, s, api.Limits{Depth: len(s) % 3, Size: max(0, len(s)-1), Once: true})
		if more == 0 {
			return
		}
		for _, b := range letters {
			goOn(s+string(b), letters, more-1)
		}
	}
	goOn("", "[]{}:,\"1 -", 5)
	goOn("", "[{\",:10.e-\\n", 4)
	goOn("{\"", "\"a:1,}", 7)
	goOn("[[", "[],1 ", 6)
}

// TestDecodeTwoBytes: all there are.
func TestDecodeTwoBytes(t *testing.T) {
	for n := range 1 << 16 {
		s := string([]byte{byte(n >> 8), byte(n)})
		for _, l := range []api.Limits{most, {Depth: n % 3, Size: 2}, {Depth: 1, Size: 1}, {Depth: 1}} {
			checkAsWanted(t, s, l)
		}
	}
}

// TestDecodeMany: texts that something is wrong with, or nothing; at limits of
// all kinds.
func TestDecodeMany(t *testing.T) {
	c := chance(152)
	counts := map[api.Errno]int{}
	for range 60000 {
		s := c.text(4)
		for range c.below(3) {
			s = c.changed(s)
		}
		checkAsWanted(t, s, most)
		l := api.Limits{Depth: c.below(6), Size: max(0, len(s)+c.below(8)-5), Once: c.below(2) == 0}
		if c.below(3) == 0 {
			l.Size = c.below(len(s) + 1)
		}
		if c.below(4) == 0 {
			s = s[:c.below(len(s)+1)]
		}
		checkAsWanted(t, s, l)
		_, _, e := wantDecode([]byte(s), l)
		counts[e]++
	}
	for _, e := range []api.Errno{api.OK, api.ErrForm, api.ErrLimit, api.ErrShort} {
		if counts[e] < 1500 {
			t.Errorf("only %d of them told %v", counts[e], e)
		}
	}
}

// TestDecodeAsLibrary: what is taken is what the library takes, too, but that it
// lets strings have what is no text.
func TestDecodeAsLibrary(t *testing.T) {
	c := chance(153)
	taken := 0
	for range 40000 {
		s := c.text(4)
		for range c.below(3) {
			s = c.changed(s)
		}
		_, _, e := json.Decode([]byte(s), most)
		is := library.Valid([]byte(s)) && utf8.ValidString(s)
		if isHalf := strings.Contains(strings.ToLower(s), `\ud`); !isHalf && e != api.ErrLimit && is != (e == api.OK) {
			t.Fatalf("Decode(%s): %v", short(s), e)
		}
		if e == api.OK {
			taken++
		}
	}
	if taken < 10000 {
		t.Fatalf("only %d of them were taken", taken)
	}
}

// TestDecodeLimitsThatCannotBe: whatever the bytes are.
func TestDecodeLimitsThatCannotBe(t *testing.T) {
	depths := map[int]bool{-1: false, math.MinInt: false, 0: true, 1: true, api.MaxDepth: true, api.MaxDepth + 1: false, math.MaxInt: false}
	sizes := map[int]bool{-1: false, math.MinInt: false, 0: true, 1: true, api.MaxSize: true, api.MaxSize + 1: false, math.MaxInt: false}
	for n, depthRight := range depths {
		for m, sizeRight := range sizes {
			for _, s := range []string{"", "1", "[", "[]", "]", "x", "[[", `{"a":1,"a":2}`, "1e400", strings.Repeat(" ", api.MaxSize+5)} {
				l := api.Limits{Depth: n, Size: m}
				if !depthRight || !sizeRight {
					checkRefused(t, s, l, 0, api.ErrArg)
					l.Once = true
					checkRefused(t, s, l, 0, api.ErrArg)
				} else {
					checkAsWanted(t, s, l)
				}
			}
		}
	}
	checkRefused(t, "", api.Limits{}, 0, api.ErrShort)
	checkRefused(t, "1", api.Limits{}, 0, api.ErrLimit)
	checkRefused(t, "x", api.Limits{}, 0, api.ErrLimit)
	checkTaken(t, "1", api.Limits{Size: 1}, whole(1))
	checkRefused(t, "[]", api.Limits{Size: 2}, 0, api.ErrLimit)
	checkTaken(t, "[]", api.Limits{Depth: 1, Size: 2}, list())
}

// TestDecodeIsApart: each answer is its caller's, and shares nothing with b.
func TestDecodeIsApart(t *testing.T) {
	const s = `["abc",{"a":[null]},18446744073709551616]`
	want := list(text("abc"), of("a", list(null())), great(big(9)))
	b := []byte(s)
	v, _, _ := json.Decode(b, once)
	for i := range b {
		b[i] = 'x'
	}
	if !same(v, want) {
		t.Fatalf("Decode: %s", told(v))
	}
	other, _, _ := json.Decode([]byte(s), once)
	other.L[1].L[1].L[0].K = api.KUndef
	other.L[0] = null()
	if !same(v, want) {
		t.Fatalf("Decode, changed by another's: %s", told(v))
	}
	checkTaken(t, s, once, want)
}

// TestDecodeLong: a text of many bytes takes no longer for each of them than a
// short one.
func TestDecodeLong(t *testing.T) {
	const many = 1 << 19
	for _, one := range []string{" ", "\n\t"} {
		run := strings.Repeat(one, many/len(one))
		checkTaken(t, run+"1"+run[1:], most, whole(1))
		checkTaken(t, "["+run+"]", most, list())
	}
	plain := strings.Repeat("a", api.MaxSize-2)
	checkTaken(t, `"`+plain+`"`, most, text(plain))
	checkTaken(t, `"`+strings.Repeat(`\n`, many-1)+`"`, most, text(strings.Repeat("\n", many-1)))
	checkRefused(t, strings.Repeat("7", api.MaxSize), most, 0, api.ErrLimit)
	checkRefused(t, "0."+strings.Repeat("7", api.MaxSize-2), most, 0, api.ErrLimit)
	var keys, values strings.Builder
	want := pairs()
	for n := range api.MaxNodes/2 - 1 {
		key := strconv.Itoa(n)
		keys.WriteString(`"` + key + `":0,`)
		values.WriteString("[" + key + "],")
		want.L = append(want.L, text(key), whole(0))
	}
	checkTaken(t, "{"+strings.TrimRight(keys.String(), ",")+"}", once, want)
	checkRefused(t, "{"+keys.String()+`"77"`, once, keys.Len()+4, api.ErrForm)
	checkRefused(t, "["+values.String()+"]", once, values.Len()+1, api.ErrForm)
}
