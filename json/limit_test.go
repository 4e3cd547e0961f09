package json_test

import (
	"strings"
	"testing"

	"glossator/api"
)

// nest is a text of so many lists and maps within one another, by turns, and
// where each of them begins.
func nest(count int, inside string) (string, []int) {
	var ahead strings.Builder
	var behind string
	var places []int
	for n := range count {
		places = append(places, ahead.Len())
		if n%2 == 0 {
			ahead.WriteString("[")
			behind = "]" + behind
		} else {
			ahead.WriteString(`{"a":`)
			behind = "}" + behind
		}
	}
	return ahead.String() + inside + behind, places
}

// TestDepth: what is there, one below and one above.
func TestDepth(t *testing.T) {
	for count := range api.MaxDepth + 3 {
		for _, inside := range []string{"1", "null", `"a"`, "0.5", ""} {
			if inside == "" && (count == 0 || count%2 == 0) {
				continue // a map's value must be there
			}
			s, places := nest(count, inside)
			for most := range api.MaxDepth + 1 {
				checkAsWanted(t, s, depth(most))
				if most < count {
					checkRefused(t, s, depth(most), places[most], api.ErrLimit)
					checkRefused(t, s[:places[most]+1], depth(most), places[most], api.ErrLimit)
					checkRefused(t, s[:places[most]+1]+"\xFF", depth(most), places[most], api.ErrLimit)
					checkRefused(t, s[:places[most]], depth(most), places[most], api.ErrShort)
				} else {
					v, _, _ := wantDecode([]byte(s), depth(most))
					checkTaken(t, s, depth(most), v)
				}
			}
		}
	}
	// Beside one another they are not within one another.
	for most := range 4 {
		checkAsWanted(t, "[[],{},[[]],{\"a\":[]}]", depth(most))
		checkAsWanted(t, "{\"a\":[],\"b\":{\"c\":{}}}", depth(most))
	}
	checkRefused(t, "[[],{},[[]]]", depth(2), 8, api.ErrLimit)
	checkTaken(t, "[[],{},[[]]]", depth(3), list(list(), pairs(), list(list())))
}

// TestDepthOfBig: a KBig counts one more, when it is whole.
func TestDepthOfBig(t *testing.T) {
	for _, number := range []string{"18446744073709551616", "-18446744073709551617", eights(1200), "-" + eights(300)} {
		n, _ := wantNumber(number)
		for count := range api.MaxDepth + 1 {
			s, _ := nest(count, number)
			at := strings.Index(s, number)
			for _, most := range []int{count - 1, count, count + 1} {
				if most >= 0 && most <= api.MaxDepth {
					checkAsWanted(t, s, depth(most))
				}
			}
			checkRefused(t, s, depth(count), at, api.ErrLimit)
			checkRefused(t, s[:at+len(number)], depth(count), at, api.ErrLimit)
			checkRefused(t, s[:at+len(number)]+"x", depth(count), at, api.ErrLimit)
			checkRefused(t, s[:at+len(number)]+" ", api.Limits{Depth: count, Size: at + len(number)}, at+len(number), api.ErrLimit)
			checkRefused(t, s[:at+len(number)]+"ex", depth(count), at+len(number)+1, api.ErrForm)
			if count < api.MaxDepth {
				checkRefused(t, s[:at+len(number)]+"x", depth(count+1), at+len(number), api.ErrForm)
			}
		}
		checkTaken(t, number, depth(1), n)
		checkTaken(t, "["+number+","+number+"]", depth(2), list(n, n))
		checkRefused(t, "["+number+","+number+"]", depth(1), 1, api.ErrLimit)
	}
	// The numbers beside it don't.
	checkTaken(t, "18446744073709551615", depth(0), whole(maxUint64))
	checkTaken(t, "-18446744073709551616", depth(0), below(maxUint64))
	checkTaken(t, "18446744073709551616.0", depth(0), f64(0x43F0000000000000))
}

// TestSize: at each place of texts, and behind them.
func TestSize(t *testing.T) {
	for _, s := range []string{"1", "null", `"a"`, "[]", "{}", ` [ 1 , "a" ] `, `{"a":[true,-1.5e3],"b":{}}`, "12345", "-0.5", "[[],[[]]]  "} {
		for n := range len(s) + 3 {
			checkAsWanted(t, s, size(n))
			if n < len(s) {
				checkRefused(t, s, size(n), n, api.ErrLimit)
				for _, other := range []string{"x", "\x00", "\xFF", "]", "}", ",", "9", "\""} { // whatever stands there
					checkRefused(t, s[:n]+other, size(n), n, api.ErrLimit)
					checkRefused(t, s[:n]+other+s, size(n), n, api.ErrLimit)
				}
			} else {
				v, _, _ := wantDecode([]byte(s), most)
				checkTaken(t, s, size(n), v)
			}
		}
	}
}

// TestSizeBehind: blanks and what can't be behind a value.
func TestSizeBehind(t *testing.T) {
	for _, one := range said() {
		n := len(one.s)
		checkTaken(t, one.s, size(n), one.v)
		for _, behind := range []string{" ", "\n", "x", "]", "1", "\xFF", "  ", " x"} {
			checkRefused(t, one.s+behind, size(n), n, api.ErrLimit)
		}
		checkTaken(t, one.s+" ", size(n+1), one.v)
		checkRefused(t, one.s+"  ", size(n+1), n+1, api.ErrLimit)
		checkRefused(t, one.s+" x", size(n+1), n+1, api.ErrLimit)
		checkRefused(t, one.s+" x", size(n+2), n+1, api.ErrForm)
		checkRefused(t, one.s+"x", size(n+1), n, api.ErrForm)
	}
}

// TestSizeOfTokens: a number, a word and a string that end right at the place
// l.Size, and go on behind it, or not.
func TestSizeOfTokens(t *testing.T) {
	for _, x := range []struct {
		s    string
		size int
		at   int
		e    api.Errno
	}{
		{"12", 1, 1, api.ErrLimit}, {"1 ", 1, 1, api.ErrLimit}, {"1", 1, 1, api.OK}, {"1x", 1, 1, api.ErrLimit}, {"1x", 2, 1, api.ErrForm}, {"-1", 1, 1, api.ErrLimit}, {"-x", 1, 1, api.ErrLimit}, {"-x", 2, 1, api.ErrForm}, {"1.5", 2, 2, api.ErrLimit}, {"1.x", 2, 2, api.ErrLimit}, {"1e5", 2, 2, api.ErrLimit}, {"-", 1, 1, api.ErrShort}, {"1.", 2, 2, api.ErrShort},
		{"[1]", 2, 2, api.ErrLimit}, {"[1,", 2, 2, api.ErrLimit}, {"[1", 2, 2, api.ErrShort}, {"[12", 2, 2, api.ErrLimit}, {"[01]", 2, 2, api.ErrLimit}, {"[01]", 3, 2, api.ErrForm}, {"[1}", 2, 2, api.ErrLimit}, {"[1}", 3, 2, api.ErrForm},
		{"1e400", 5, 0, api.ErrLimit}, {"1e400 ", 5, 5, api.ErrLimit}, {"1e400", 4, 4, api.ErrLimit}, {"1e400 ", 6, 0, api.ErrLimit}, {"1e400x", 6, 0, api.ErrLimit}, {"[1e400]", 6, 6, api.ErrLimit}, {"[1e400]", 7, 1, api.ErrLimit}, {"[1e400", 6, 1, api.ErrLimit}, {"[1e4000", 6, 6, api.ErrLimit},
		{"null", 3, 3, api.ErrLimit}, {"null", 4, 4, api.OK}, {"nullx", 4, 4, api.ErrLimit}, {"nullx", 5, 4, api.ErrForm}, {"nul", 3, 3, api.ErrShort}, {"nulx", 3, 3, api.ErrLimit}, {"nulx", 4, 3, api.ErrForm}, {"true ", 4, 4, api.ErrLimit}, {"[false", 6, 6, api.ErrShort}, {"[false]", 6, 6, api.ErrLimit}, {"[false]", 5, 5, api.ErrLimit},
		{`"a"`, 2, 2, api.ErrLimit}, {`"a"`, 3, 3, api.OK}, {`"a" `, 3, 3, api.ErrLimit}, {`"a"x`, 3, 3, api.ErrLimit}, {`"a"x`, 4, 3, api.ErrForm}, {`"ab`, 2, 2, api.ErrLimit}, {`"a`, 2, 2, api.ErrShort}, {"\"a\n", 2, 2, api.ErrLimit}, {"\"a\n", 3, 2, api.ErrForm}, {`"\n"`, 2, 2, api.ErrLimit}, {`"\x"`, 2, 2, api.ErrLimit}, {`"\x"`, 3, 2, api.ErrForm}, {"\"\xE2\x82\"", 3, 3, api.ErrLimit}, {"\"\xE2\x82\"", 4, 3, api.ErrForm}, {"\"\xFF\"", 2, 1, api.ErrForm}, {`"\ud83d`, 7, 7, api.ErrShort}, {`"\ud83dx`, 7, 7, api.ErrLimit}, {`{"a":1}`, 4, 4, api.ErrLimit}, {`{"a"x`, 4, 4, api.ErrLimit}, {`{"a"x`, 5, 4, api.ErrForm},
		// A limit at the last byte that may be looked at.
		{"[", 1, 1, api.ErrShort}, {"[[", 1, 1, api.ErrLimit}, {"]", 0, 0, api.ErrLimit}, {"]", 1, 0, api.ErrForm}, {"[]]", 2, 2, api.ErrLimit}, {"[]]", 3, 2, api.ErrForm}, {"[,", 1, 1, api.ErrLimit}, {"[,", 2, 1, api.ErrForm},
	} {
		checkAsWanted(t, x.s, size(x.size))
		if x.e == api.OK {
			v, _, _ := wantDecode([]byte(x.s), most)
			checkTaken(t, x.s, size(x.size), v)
		} else {
			checkRefused(t, x.s, size(x.size), x.at, x.e)
		}
	}
}

// TestMostSize: as many bytes as may be, and one more.
func TestMostSize(t *testing.T) {
	run := strings.Repeat(" ", api.MaxSize-1)
	checkTaken(t, run+"1", most, whole(1))
	checkTaken(t, "1"+run, most, whole(1))
	for _, s := range []string{run + "1 ", run + " 1", "1 " + run, "1" + run + "x", run + "12", run + "nul", run + "[x"} {
		checkRefused(t, s, most, api.MaxSize, api.ErrLimit)
	}
	checkRefused(t, run+"x", most, api.MaxSize-1, api.ErrForm)
	checkRefused(t, run+"]1", most, api.MaxSize-1, api.ErrForm)
	checkRefused(t, run+" ", most, api.MaxSize, api.ErrShort)
	checkRefused(t, run+"[", most, api.MaxSize, api.ErrShort)
	checkRefused(t, run+"[", depth(0), api.MaxSize-1, api.ErrLimit)
}

// TestMostValues: of all kinds, the last of which is told at its own place.
func TestMostValues(t *testing.T) {
	// A list and one value less than may be.
	ahead := "[" + strings.Repeat("0,", api.MaxNodes-2)
	checkTaken(t, ahead+"0]", most, list(append(ofZeros(api.MaxNodes-2), whole(0))...))
	for _, one := range []string{"null", "-7", "0.1", `"a"`, "18446744073709551616", "[]"} {
		v, _, _ := wantDecode([]byte(one), most)
		checkTaken(t, ahead+one+"]", most, list(append(ofZeros(api.MaxNodes-2), v)...))
		s := ahead + "0, " + one
		at := len(ahead) + 3
		checkRefused(t, s, most, at, api.ErrLimit)
		for _, behind := range []string{"]", " ", "x"} {
			checkRefused(t, s+behind, most, at, api.ErrLimit)
			checkAsWanted(t, s+behind, size(len(s)))
			checkAsWanted(t, s+behind, size(len(s)-1))
		}
	}
	// When it is not whole it is not told yet; what can't be is told.
	for _, x := range []struct {
		s  string
		at int
		e  api.Errno
	}{
		{"nul", 3, api.ErrShort}, {"nux", 2, api.ErrForm}, {"nulx", 3, api.ErrForm}, {"-", 1, api.ErrShort}, {"-x", 1, api.ErrForm}, {"1.", 2, api.ErrShort}, {"1.x", 2, api.ErrForm}, {"1", 0, api.ErrLimit}, {"1x", 0, api.ErrLimit}, {"1e400", 0, api.ErrLimit}, {"1e400x", 0, api.ErrLimit},
		{`"a`, 2, api.ErrShort}, {`"\x`, 2, api.ErrForm}, {`"\xC3"`, 2, api.ErrForm}, {`"a"`, 0, api.ErrLimit}, {"[", 0, api.ErrLimit}, {"[x", 0, api.ErrLimit}, {"{", 0, api.ErrLimit}, {"{1", 0, api.ErrLimit}, {"]", 0, api.ErrForm}, {",", 0, api.ErrForm}, {"x", 0, api.ErrForm},
	} {
		checkRefused(t, ahead+"0,"+x.s, most, len(ahead)+2+x.at, x.e)
	}
	// Deeper than may be, too.
	checkRefused(t, ahead+"[[", depth(1), len(ahead), api.ErrLimit)
	checkRefused(t, ahead+"[[", depth(2), len(ahead)+1, api.ErrLimit)
}

// TestMostValuesOfMaps: keys count, too.
func TestMostValuesOfMaps(t *testing.T) {
	pair := `"":0,`
	ahead := "{" + strings.Repeat(pair, api.MaxNodes/2-2)
	// The map, and three values less than may be.
	var l []api.Value
	for range api.MaxNodes/2 - 2 {
		l = append(l, text(""), whole(0))
	}
	checkTaken(t, ahead+`"":0}`, most, pairs(append(l, text(""), whole(0))...))
	checkTaken(t, ahead+`"":[0]}`, most, pairs(append(l, text(""), list(whole(0)))...))
	checkRefused(t, ahead+`"":[0,1]}`, most, len(ahead)+6, api.ErrLimit)
	checkRefused(t, ahead+pair+`"k":0}`, most, len(ahead)+len(pair)+4, api.ErrLimit) // the key is the last that may be
	checkRefused(t, ahead+pair+`"k":`, most, len(ahead)+len(pair)+4, api.ErrShort)
	checkRefused(t, ahead+pair+`"k"x`, most, len(ahead)+len(pair)+3, api.ErrForm)
	checkRefused(t, ahead+`"":[0],"k":1}`, most, len(ahead)+7, api.ErrLimit) // the key is one too many
	checkRefused(t, ahead+`"":[0],"k"`, most, len(ahead)+7, api.ErrLimit)
	checkRefused(t, ahead+`"":[0],"k`, most, len(ahead)+9, api.ErrShort)
	checkRefused(t, ahead+`"":[0],"\x`, most, len(ahead)+9, api.ErrForm)
	checkRefused(t, ahead+`"":[0],"k"`, size(len(ahead)+9), len(ahead)+9, api.ErrLimit)
}

func ofZeros(n int) []api.Value {
	out := make([]api.Value, n)
	for i := range out {
		out[i] = whole(0)
	}
	return out
}

// TestFirstOfTwoErrors: the one that is told first, by the bytes' order.
func TestFirstOfTwoErrors(t *testing.T) {
	for _, x := range []struct {
		s  string
		l  api.Limits
		at int
		e  api.Errno
	}{
		{"[x", depth(0), 0, api.ErrLimit}, {"[x", depth(1), 1, api.ErrForm}, {"x[", depth(0), 0, api.ErrForm}, {"[1 [", depth(1), 3, api.ErrForm}, {"[1,[", depth(1), 3, api.ErrLimit}, {"[1,[x", depth(1), 3, api.ErrLimit}, {"[[],x", depth(1), 1, api.ErrLimit}, {"[] [", depth(1), 3, api.ErrForm}, {"[][", depth(1), 2, api.ErrForm},
		{"{1:[", depth(1), 1, api.ErrForm}, {`{"a":[`, depth(1), 5, api.ErrLimit}, {`{"a":[`, depth(0), 0, api.ErrLimit}, {`{"a"[`, depth(1), 4, api.ErrForm}, {`{"a":1e400`, depth(1), 5, api.ErrLimit}, {`{"a":1e400`, depth(0), 0, api.ErrLimit}, {`{[`, depth(1), 1, api.ErrForm},
		{"[1e400 x", depth(1), 1, api.ErrLimit}, {"[1e400x", depth(1), 1, api.ErrLimit}, {"[1e400,[", depth(1), 1, api.ErrLimit}, {"[x,1e400]", depth(1), 1, api.ErrForm}, {"[1,1e400,x]", depth(1), 3, api.ErrLimit}, {"[1e400.5]", depth(1), 1, api.ErrLimit}, {"[1.e400]", depth(1), 3, api.ErrForm}, {"[01e400]", depth(1), 2, api.ErrForm}, {"[1e400e]", depth(1), 1, api.ErrLimit}, {"1e400", depth(0), 0, api.ErrLimit},
		{"[1", api.Limits{Depth: 0, Size: 2}, 0, api.ErrLimit}, {"[1", api.Limits{Depth: 1, Size: 2}, 2, api.ErrShort}, {"[1]", api.Limits{Depth: 1, Size: 2}, 2, api.ErrLimit}, {"[x", api.Limits{Depth: 0, Size: 1}, 0, api.ErrLimit}, {"[x", api.Limits{Depth: 1, Size: 1}, 1, api.ErrLimit}, {"[[", api.Limits{Depth: 1, Size: 1}, 1, api.ErrLimit}, {"[[", api.Limits{Depth: 1, Size: 2}, 1, api.ErrLimit}, {"[", api.Limits{Depth: 0, Size: 0}, 0, api.ErrLimit}, {"", api.Limits{Depth: 0, Size: 0}, 0, api.ErrShort},
		{"x", api.Limits{Depth: -1, Size: 0}, 0, api.ErrArg}, {"x", api.Limits{Depth: 0, Size: -1}, 0, api.ErrArg}, {"[x", api.Limits{Depth: 65, Size: 1}, 0, api.ErrArg}, {"", api.Limits{Depth: 0, Size: api.MaxSize + 1}, 0, api.ErrArg},
		{eights(1201) + "[", depth(0), 0, api.ErrLimit}, {"[" + eights(1201), depth(0), 0, api.ErrLimit}, {"[" + eights(1200), depth(1), 1, api.ErrLimit}, {"[" + eights(1200), depth(2), 1201, api.ErrShort}, {eights(1201), size(1201), 0, api.ErrLimit}, {eights(1202), size(1201), 1201, api.ErrLimit},
	} {
		checkRefused(t, x.s, x.l, x.at, x.e)
		checkAsWanted(t, x.s, x.l)
	}
}
