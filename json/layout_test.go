package json_test

import (
	"strings"
	"testing"

	"glossator/api"
)

// TestIndent: by hand, with empty lists and maps, within each other.
func TestIndent(t *testing.T) {
	for _, x := range []struct {
		v     api.Value
		lines []string // a sign > is one level
	}{
		{null(), []string{"null"}}, {text("a\n"), []string{`"a\n"`}}, {list(), []string{"[]"}}, {pairs(), []string{"{}"}},
		{list(whole(1)), []string{"[", ">1", "]"}},
		{list(whole(1), whole(2), text("[,]")), []string{"[", ">1,", ">2,", `>"[,]"`, "]"}},
		{of("a", whole(1)), []string{"{", `>"a": 1`, "}"}},
		{pairs(text("b"), whole(1), text("a:"), null()), []string{"{", `>"b": 1,`, `>"a:": null`, "}"}},
		{list(list()), []string{"[", ">[]", "]"}}, {list(pairs()), []string{"[", ">{}", "]"}}, {of("", list()), []string{"{", `>"": []`, "}"}}, {of("", pairs()), []string{"{", `>"": {}`, "}"}},
		{list(list(), pairs(), list(list(list()))), []string{"[", ">[],", ">{},", ">[", ">>[", ">>>[]", ">>]", ">]", "]"}},
		{list(of("a", list(whole(1), of("b", pairs()))), null()), []string{"[", ">{", `>>"a": [`, ">>>1,", ">>>{", `>>>>"b": {}`, ">>>}", ">>]", ">},", ">null", "]"}},
		{of("a", of("b", of("c", list(null())))), []string{"{", `>"a": {`, `>>"b": {`, `>>>"c": [`, ">>>>null", ">>>]", ">>}", ">}", "}"}},
	} {
		checkEncode(t, x.v, api.Option{}, wantLine(x.v, false), api.OK)
		for indent := 1; indent <= 8; indent++ {
			want := strings.ReplaceAll(strings.Join(x.lines, "\n"), ">", strings.Repeat(" ", indent))
			checkEncode(t, x.v, api.Option{Indent: indent}, want, api.OK)
			checkEncode(t, x.v, api.Option{Indent: indent, Open: true}, want, api.OK)
			if string(wantEncode(x.v, api.Option{Indent: indent})) != want {
				t.Fatalf("the library writes %s otherwise", told(x.v))
			}
		}
	}
}

// TestIndentDeep: as many blanks as there can be in a line.
func TestIndentDeep(t *testing.T) {
	v := within(64, null())
	for indent := range 9 {
		checkEncode(t, v, api.Option{Indent: indent}, string(wantEncode(v, api.Option{Indent: indent})), api.OK)
	}
	lines := strings.Split(string(wantEncode(v, api.Option{Indent: 8})), "\n")
	if len(lines) != 129 || lines[64] != strings.Repeat(" ", 512)+"null" {
		t.Fatalf("%d lines, %q", len(lines), lines[64])
	}
}

// TestSort: by hand.
func TestSort(t *testing.T) {
	sorted := api.Option{Sort: true}
	numbered := func(keys ...string) api.Value {
		v := pairs()
		for i, key := range keys {
			v.L = append(v.L, text(key), whole(uint64(i)))
		}
		return v
	}
	for _, x := range []struct {
		v api.Value
		s string
	}{
		{numbered(), "{}"}, {numbered("a"), `{"a":0}`}, {numbered("a", "b"), `{"a":0,"b":1}`}, {numbered("b", "a"), `{"a":1,"b":0}`}, {numbered("c", "a", "b"), `{"a":1,"b":2,"c":0}`},
		// Of different lengths: not the shorter first, but what begins another.
		{numbered("b", "aa", "a", "", "ab", "aaa"), `{"":3,"a":2,"aa":1,"aaa":5,"ab":4,"b":0}`}, {numbered("10", "9", "1", "09"), `{"09":3,"1":2,"10":0,"9":1}`},
		// By bytes: not by what they say, nor by how they are written.
		{numbered("a", "B", "A", "b", "_", "0", "~"), `{"0":5,"A":2,"B":1,"_":4,"a":0,"b":3,"~":6}`},
		{numbered("z", "\u00E4", "\u20AC", "\U0001F600", "\uFFFD", "\x7F", "\u0080"), `{"z":0,"` + "\x7F" + `":5,"` + "\u0080" + `":6,"` + "\u00E4" + `":1,"` + "\u20AC" + `":2,"` + "\uFFFD" + `":4,"` + "\U0001F600" + `":3}`}, // by UTF-16 the last two would stand the other way
		{numbered("a", "\"", "\\", "\n", "\x1F", " ", "\x00", "/"), `{"\u0000":6,"\n":3,"\u001f":4," ":5,"\"":1,"/":7,"\\":2,"a":0}`},
		{numbered("a\x00", "a", "a\x01", "a "), `{"a":1,"a\u0000":0,"a\u0001":2,"a ":3}`},
		// Of the same ones as they stand.
		{numbered("a", "a"), `{"a":0,"a":1}`}, {numbered("b", "a", "b", "a", "b"), `{"a":1,"a":3,"b":0,"b":2,"b":4}`}, {numbered("", "a", "", ""), `{"":0,"":2,"":3,"a":1}`},
		{numbered("c", "b", "a", "c", "b", "a", "c", "b", "a", "c", "b", "a", "c", "b", "a", "c", "b", "a"), `{"a":2,"a":5,"a":8,"a":11,"a":14,"a":17,"b":1,"b":4,"b":7,"b":10,"b":13,"b":16,"c":0,"c":3,"c":6,"c":9,"c":12,"c":15}`},
		// In maps within, and not in lists.
		{list(numbered("b", "a"), whole(2), whole(1)), `[{"a":1,"b":0},2,1]`}, {of("x", numbered("b", "a")), `{"x":{"a":1,"b":0}}`}, {pairs(text("y"), numbered("d", "c"), text("x"), list(numbered("b", "a"), text("b"), text("a"))), `{"x":[{"a":1,"b":0},"b","a"],"y":{"c":1,"d":0}}`},
	} {
		checkEncode(t, x.v, sorted, x.s, api.OK)
		checkEncode(t, x.v, api.Option{Sort: true, Open: true}, x.s, api.OK)
		checkEncode(t, x.v, api.Option{}, wantLine(x.v, false), api.OK)
	}
}

// TestSortAndIndent: the two together.
func TestSortAndIndent(t *testing.T) {
	v := pairs(text("b"), list(pairs(text("d"), null(), text("c"), list())), text("a"), pairs(), text("b"), whole(1))
	for indent := 1; indent <= 8; indent++ {
		want := strings.ReplaceAll("{\n>\"a\": {},\n>\"b\": [\n>>{\n>>>\"c\": [],\n>>>\"d\": null\n>>}\n>],\n>\"b\": 1\n}", ">", strings.Repeat(" ", indent))
		checkEncode(t, v, api.Option{Indent: indent, Sort: true}, want, api.OK)
	}
	checkEncode(t, v, api.Option{Sort: true}, `{"a":{},"b":[{"c":[],"d":null}],"b":1}`, api.OK)
}

// TestSortOfMany: maps of many pairs, some of whose keys are the same.
func TestSortOfMany(t *testing.T) {
	c := chance(157)
	for range 300 {
		v := pairs()
		for i := range c.below(200) {
			key := ""
			for range c.below(4) {
				key += []string{"a", "b", "\x00", "\u00E4", "\U0001F600", "\uFFFF"}[c.below(6)]
			}
			v.L = append(v.L, text(key), whole(uint64(i)))
		}
		for _, o := range []api.Option{{Sort: true}, {Sort: true, Indent: 2}, {}} {
			checkEncode(t, v, o, string(wantEncode(v, o)), api.OK)
		}
	}
}
