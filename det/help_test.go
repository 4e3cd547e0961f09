package det_test

import (
	"bytes"
	"slices"
	"strconv"
	"strings"
	"testing"

	"glossator/api"
	"glossator/cbor"
	"glossator/det"
	"glossator/value"
)

const maxUint64 = 1<<64 - 1

func null() api.Value               { return api.Value{K: api.KNull} }
func whole(n uint64) api.Value      { return api.Value{K: api.KInt, N: n} }
func below(n uint64) api.Value      { return api.Value{K: api.KInt, Neg: true, N: n} }
func simple(n uint64) api.Value     { return api.Value{K: api.KSimple, N: n} }
func great(s string) api.Value      { return api.Value{K: api.KBig, S: s} }
func greatBelow(s string) api.Value { return api.Value{K: api.KBig, Neg: true, S: s} }
func f16(n uint64) api.Value        { return api.Value{K: api.KF16, N: n} }
func f32(n uint64) api.Value        { return api.Value{K: api.KF32, N: n} }
func f64(n uint64) api.Value        { return api.Value{K: api.KF64, N: n} }
func raw(s string) api.Value        { return api.Value{K: api.KBytes, S: s} }
func text(s string) api.Value       { return api.Value{K: api.KText, S: s} }
func list(l ...api.Value) api.Value { return api.Value{K: api.KList, L: l} }
func ext(s string) api.Value        { return api.Value{K: api.KExt, N: 1, S: s} }

// pairs is a map of a key, its value, and so on.
func pairs(l ...api.Value) api.Value { return api.Value{K: api.KMap, L: l} }

func tag(n uint64, l ...api.Value) api.Value { return api.Value{K: api.KTag, N: n, L: l} }

func nulls(n int) []api.Value { return make([]api.Value, n) }

func zeros(n int) string { return strings.Repeat("\x00", n) }

// big are n bytes, the first not 0.
func big(n int) string { return "\x01" + zeros(n-1) }

// within is v within so many lists.
func within(lists int, v api.Value) api.Value {
	for range lists {
		v = list(v)
	}
	return v
}

// wraps put a value within another, of which all else is plain and stays in its
// place.
func wraps() []func(api.Value) api.Value {
	return []func(api.Value) api.Value{
		func(v api.Value) api.Value { return v },
		func(v api.Value) api.Value { return list(v) },
		func(v api.Value) api.Value { return list(null(), v, text("behind")) },
		func(v api.Value) api.Value { return pairs(v, null()) },
		func(v api.Value) api.Value { return pairs(null(), v) },
		func(v api.Value) api.Value { return tag(5, v) },
		func(v api.Value) api.Value { return tag(2, list(v)) },
		func(v api.Value) api.Value { return within(40, v) },
		func(v api.Value) api.Value { return pairs(pairs(list(whole(1), v), text("a")), null()) },
		func(v api.Value) api.Value {
			return list(pairs(whole(1), tag(7, list(list(), v)), text("a"), list()), whole(9))
		},
		func(v api.Value) api.Value { return tag(3, tag(2, pairs(tag(1, list(v)), list(v)))) },
	}
}

// bytesOf are bytes from letters of base 16; blanks count for nothing.
func bytesOf(t *testing.T, letters string) []byte {
	t.Helper()
	letters = strings.ReplaceAll(letters, " ", "")
	var out []byte
	for ; letters != ""; letters = letters[2:] {
		n, err := strconv.ParseUint(letters[:2], 16, 8)
		if err != nil {
			t.Fatal(err)
		}
		out = append(out, byte(n))
	}
	return out
}

// item is what CBOR has for v.
func item(v api.Value) []byte {
	b, e := cbor.Encode(v, api.Option{})
	if e != api.OK {
		panic(told(v) + ": " + e.Error())
	}
	return b
}

// copied shares no list with v.
func copied(v api.Value) api.Value {
	v.L = slices.Clone(v.L)
	for i, x := range v.L {
		v.L[i] = copied(x)
	}
	return v
}

// same tells whether two trees are the same in all fields.
func same(a, b api.Value) bool {
	return a.K == b.K && a.Neg == b.Neg && a.N == b.N && a.S == b.S && slices.EqualFunc(a.L, b.L, same)
}

// told is a tree in few words.
func told(v api.Value) string {
	s := strconv.Quote(v.S)
	if len(s) > 40 {
		s = s[:40] + " .. (" + strconv.Itoa(len(v.S)) + " bytes)"
	}
	out := "{K " + strconv.Itoa(v.K) + " Neg " + strconv.FormatBool(v.Neg) + " N " + strconv.FormatUint(v.N, 16) + " S " + s
	for i, x := range v.L {
		if i == 6 {
			return out + " .. (" + strconv.Itoa(len(v.L)) + " within)}"
		}
		out += " " + told(x)
	}
	return out + "}"
}

// checkPlain asks all calls for v, of which the plain tree is wanted.
func checkPlain(t *testing.T, v, want api.Value) {
	t.Helper()
	before := copied(v)
	got, e := det.Plain(v)
	if !same(got, want) || e != api.OK {
		t.Fatalf("Plain(%s): %s, %v, want %s", told(v), told(got), e, told(want))
	}
	if e := value.Check(got); e != api.OK {
		t.Fatalf("Plain(%s) is no right tree: %v", told(v), e)
	}
	if again, e := det.Plain(got); !same(again, want) || e != api.OK {
		t.Fatalf("Plain of Plain(%s): %s, %v, want %s", told(v), told(again), e, told(want))
	}
	b, e := det.Encode(v)
	if !bytes.Equal(b, item(want)) || e != api.OK {
		t.Fatalf("Encode(%s): % .60X, %v, want % .60X", told(v), b, e, item(want))
	}
	if isSo := len(b) <= api.MaxSize; det.Is(b) != isSo {
		t.Fatalf("Is(Encode(%s)): %v", told(v), !isSo)
	}
	if !det.Same(v, want) || !det.Same(want, v) || !det.Same(v, v) {
		t.Fatalf("Same(%s, %s): false", told(v), told(want))
	}
	if !same(v, before) {
		t.Fatalf("a call changed %s", told(before))
	}
}

// checkRefused asks all calls for v, which has no plain tree.
func checkRefused(t *testing.T, v api.Value, want api.Errno) {
	t.Helper()
	before := copied(v)
	if got, e := det.Plain(v); !same(got, api.Value{}) || e != want {
		t.Fatalf("Plain(%s): %s, %v, want %v", told(v), told(got), e, want)
	}
	if b, e := det.Encode(v); len(b) > 0 || e != want {
		t.Fatalf("Encode(%s): % .60X, %v, want %v", told(v), b, e, want)
	}
	if det.Same(v, v) || det.Same(v, null()) || det.Same(null(), v) {
		t.Fatalf("Same(%s, ..): true", told(v))
	}
	if !same(v, before) {
		t.Fatalf("a call changed %s", told(before))
	}
}

// checkAsWanted holds all calls against the document's words, for v, which is
// right and has no KExt.
func checkAsWanted(t *testing.T, v api.Value) {
	t.Helper()
	if want, ok := wantPlain(v); ok {
		checkPlain(t, v, want)
	} else {
		checkRefused(t, v, api.ErrForm)
	}
}

// checkIs asks Is for b, which other bytes stand behind in memory.
func checkIs(t *testing.T, b []byte, want bool) {
	t.Helper()
	room := append(slices.Clone(b), "\x00\xFF\x00"...)
	if got := det.Is(room[:len(b)]); got != want {
		t.Fatalf("Is(% .60X), %d bytes: %v", b, len(b), got)
	}
	if !bytes.Equal(room[:len(b)], b) || string(room[len(b):]) != "\x00\xFF\x00" {
		t.Fatalf("Is(% .60X), %d bytes, changed them", b, len(b))
	}
}
