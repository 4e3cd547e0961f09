package event_test

import (
	"math"
	"slices"
	"strings"
	"testing"

	"glossator/api"
	"glossator/event"
)

// places are events behind which one of any kind may come.
func places() [][]api.Event {
	return [][]api.Event{
		nil, {beginList}, {beginList, aNull}, {beginMap}, {beginMap, aNull}, {beginMap, aNull, aNull}, {beginTag(1)}, {beginTag(4)}, {beginTag(1), beginTag(4)},
		{beginList, beginMap, aNull, beginTag(4)}, {beginTag(2), beginList}, {beginTag(3), beginMap, aNull}, {beginList, beginTag(2), beginTag(5)}, {beginList, beginList, end}, {beginList, beginTag(4), aNull},
	}
}

// eachWhole are events of whole values of each kind.
func eachWhole() [][]api.Event {
	return [][]api.Event{
		{aNull}, {aBig}, {aText("a")}, {beginList, end}, {beginList, aNull, end}, {beginMap, end}, {beginMap, aNull, aNull, end}, {beginTag(1), aNull}, {beginTag(1), beginTag(2), aNull}, {beginTag(1), beginList, beginTag(4), beginMap, end, end},
	}
}

// TestPutOfEach: a value of each kind in every place.
func TestPutOfEach(t *testing.T) {
	for _, l := range places() {
		for _, v := range leaves() {
			checkPut(t, api.MaxDepth, l, api.Event{K: v.K, Neg: v.Neg, N: v.N, S: v.S}, api.OK)
		}
		for _, e := range []api.Event{beginList, beginMap, beginTag(0), beginTag(2), beginTag(3), beginTag(maxUint64)} {
			checkPut(t, api.MaxDepth, l, e, api.OK)
		}
	}
}

// TestPutBehindWhole: nothing goes on.
func TestPutBehindWhole(t *testing.T) {
	for _, l := range eachWhole() {
		for _, v := range leaves() {
			checkPut(t, api.MaxDepth, l, api.Event{K: v.K, Neg: v.Neg, N: v.N, S: v.S}, api.ErrForm)
		}
		for _, e := range []api.Event{beginList, beginMap, beginTag(1), beginTag(2), end, noEvent} {
			checkPut(t, api.MaxDepth, l, e, api.ErrForm)
		}
		checkPut(t, api.MaxDepth, append([]api.Event{beginList}, l...), aNull, api.OK)
		checkPut(t, api.MaxDepth, append([]api.Event{beginList}, l...), end, api.OK)
	}
}

func TestPutOfEnd(t *testing.T) {
	for _, l := range [][]api.Event{
		nil,
		{beginMap, aNull}, {beginMap, aNull, aNull, aNull}, {beginMap, beginList, end}, {beginMap, beginTag(1), aNull}, {beginList, beginMap, aNull}, {beginTag(1), beginMap, aNull},
		{beginTag(1)}, {beginTag(2)}, {beginTag(1), beginTag(1)}, {beginList, beginTag(1)}, {beginMap, beginTag(1)}, {beginMap, aNull, beginTag(1)}, {beginList, aNull, beginTag(1)},
	} {
		checkPut(t, api.MaxDepth, l, end, api.ErrForm)
	}
	for _, l := range [][]api.Event{
		{beginList}, {beginList, aNull}, {beginList, aNull, aNull, aNull}, {beginList, beginList}, {beginTag(1), beginList}, {beginMap, aNull, beginList, aNull}, {beginMap, beginList}, {beginList, beginTag(1), aNull},
		{beginMap}, {beginMap, aNull, aNull}, {beginMap, beginTag(1), aNull, aNull}, {beginMap, aNull, beginTag(1), aNull}, {beginTag(1), beginMap}, {beginList, beginMap, beginList, end, beginMap, end},
	} {
		checkPut(t, api.MaxDepth, l, end, api.OK)
	}
}

// TestPutOfFields: each field that a kind has not is zero.
func TestPutOfFields(t *testing.T) {
	var all []api.Event
	for _, v := range leaves() {
		all = append(all, api.Event{K: v.K, Neg: v.Neg, N: v.N, S: v.S})
	}
	all = append(all, beginList, beginMap, beginTag(0), beginTag(4), end)
	for _, e := range all {
		for _, x := range wrongFields(e) {
			for _, l := range places() {
				checkPut(t, api.MaxDepth, l, x, api.ErrForm)
			}
		}
	}
	for _, x := range wrongFields(end) {
		checkPut(t, api.MaxDepth, []api.Event{beginList}, x, api.ErrForm)
		checkPut(t, api.MaxDepth, []api.Event{beginMap}, x, api.ErrForm)
	}
}

// wrongFields are e with each field that is not its kind's set.
func wrongFields(e api.Event) []api.Event {
	var out []api.Event
	if e.K != api.KInt && e.K != api.KBig {
		x := e
		x.Neg = true
		out = append(out, x)
	}
	switch e.K {
	case api.KNull, api.KUndef, api.KBig, api.KBytes, api.KText, api.KList, api.KMap, api.KEnd:
		for _, n := range []uint64{1, 2, 1 << 32, 1 << 63, maxUint64} {
			x := e
			x.N = n
			out = append(out, x)
		}
	}
	switch e.K {
	case api.KBig, api.KBytes, api.KText, api.KExt:
	default:
		for _, s := range []string{"\x00", "a", big(9)} {
			x := e
			x.S = s
			out = append(out, x)
		}
	}
	return out
}

// TestPutOfBounds: fields past what their kind has.
func TestPutOfBounds(t *testing.T) {
	var wrong []api.Event
	for k, numbers := range map[int][]uint64{
		api.KBool:   {2, 256, 1 << 32, maxUint64},
		api.KSimple: {20, 31, 256, 1<<32 + 1, maxUint64},
		api.KF16:    {1 << 16, 1<<32 + 1, maxUint64},
		api.KF32:    {1 << 32, 1 << 63, maxUint64},
		api.KExt:    {256, 1 << 32, maxUint64},
	} {
		for _, n := range numbers {
			wrong = append(wrong, api.Event{K: k, N: n})
		}
	}
	for _, s := range []string{"", "a", big(8), big(api.MaxBig + 1), "\x00" + big(9), strings.Repeat("\x00", 9)} {
		wrong = append(wrong, api.Event{K: api.KBig, S: s}, api.Event{K: api.KBig, Neg: true, S: s})
	}
	for _, s := range []string{"\x80", "\xC0\x80", "\xE2\x82", "a\xED\xA0\x80", "\xF4\x90\x80\x80", "\xFF", strings.Repeat("\u20AC", 99) + "\xC3"} {
		wrong = append(wrong, aText(s))
	}
	for _, k := range []int{-1, math.MinInt, api.KEnd + 1, 100, 1 << 32, 1<<32 + api.KList, 1<<32 + api.KEnd, math.MaxInt} {
		wrong = append(wrong, api.Event{K: k}, api.Event{K: k, Neg: true, N: 1, S: "a"})
	}
	for _, e := range wrong {
		for _, l := range places() {
			checkPut(t, api.MaxDepth, l, e, api.ErrForm)
		}
	}
}

// TestPutOfTagOfBytes: bytes that a KBig is there for are no tag's.
func TestPutOfTagOfBytes(t *testing.T) {
	around := [][]api.Event{nil, {beginList}, {beginMap}, {beginMap, aNull}, {beginTag(1)}, {beginTag(2)}, {beginList, beginTag(3), beginTag(4)}}
	for _, s := range []string{big(9), big(10), big(api.MaxBig), strings.Repeat("\xFF", 9), strings.Repeat("\xFF", api.MaxBig)} {
		for _, l := range around {
			for _, n := range []uint64{2, 3} {
				behind := append(slices.Clone(l), beginTag(n))
				checkPut(t, api.MaxDepth, behind, someBytes(s), api.ErrForm)
				checkPut(t, api.MaxDepth, behind, api.Event{K: api.KBig, S: s}, api.OK)
				checkPut(t, api.MaxDepth, behind, api.Event{K: api.KExt, S: s}, api.OK)
				checkPut(t, api.MaxDepth, append(behind, beginTag(4)), someBytes(s), api.OK)
				checkPut(t, api.MaxDepth, append(behind, beginTag(5-n)), someBytes(s), api.ErrForm)
				checkPut(t, api.MaxDepth, append(behind, beginList), someBytes(s), api.OK)
				checkPut(t, api.MaxDepth, append(behind, beginMap), someBytes(s), api.OK)
			}
			for _, n := range []uint64{0, 1, 4, 256 + 2, 1<<32 + 3, 1<<63 + 2, maxUint64} {
				checkPut(t, api.MaxDepth, append(slices.Clone(l), beginTag(n)), someBytes(s), api.OK)
			}
		}
		// A tag that has its value is behind.
		checkPut(t, api.MaxDepth, []api.Event{beginList, beginTag(2), aNull}, someBytes(s), api.OK)
		checkPut(t, api.MaxDepth, []api.Event{beginList, beginTag(3), beginList, end}, someBytes(s), api.OK)
	}
	for _, s := range []string{"", "a", "\x00", big(8), strings.Repeat("\xFF", 8), big(api.MaxBig + 1), "\x00" + big(8), "\x00" + big(9), "\x00" + big(api.MaxBig-1), strings.Repeat("\x00", 9)} {
		for _, l := range around {
			for _, n := range []uint64{2, 3} {
				checkPut(t, api.MaxDepth, append(slices.Clone(l), beginTag(n)), someBytes(s), api.OK)
			}
		}
	}
	checkPut(t, api.MaxDepth, []api.Event{beginTag(2)}, aText("123456789"), api.OK)
	checkPut(t, api.MaxDepth, []api.Event{beginTag(3)}, aText("123456789"), api.OK)
}

// opened are events that open so many values, of all kinds.
func opened(n int) []api.Event {
	l := events(times(n, beginList))
	for i := range l {
		switch i % 4 {
		case 1:
			l[i] = beginTag(uint64(i))
		case 2:
			l[i] = beginMap
		}
	}
	return l
}

func TestPutOfDepth(t *testing.T) {
	plain := []api.Event{aNull, aText("a"), someBytes(big(9)), {K: api.KF64, N: 1}, {K: api.KExt, S: big(9)}}
	deeper := []api.Event{beginList, beginMap, beginTag(4), aBig, {K: api.KBig, Neg: true, S: big(api.MaxBig)}}
	for _, depth := range []int{0, 1, 2, 3, 7, api.MaxDepth - 1, api.MaxDepth} {
		for _, l := range [][]api.Event{opened(depth), times(depth, beginList), times(depth, beginMap), times(depth, beginTag(1))} {
			for _, e := range deeper {
				checkPut(t, depth, l, e, api.ErrLimit)
				if depth > 0 {
					checkPut(t, depth, l[:depth-1], e, api.OK)
				}
			}
			for _, e := range plain {
				checkPut(t, depth, l, e, api.OK)
			}
		}
	}
	// What is whole is not open.
	l := []api.Event{beginList, beginList, end, beginTag(1), aNull, beginMap, end, aBig}
	for _, e := range deeper {
		checkPut(t, 2, l, e, api.OK)
		checkPut(t, 2, append(slices.Clone(l), beginList, end), e, api.OK)
		checkPut(t, 2, append(slices.Clone(l), beginList), e, api.ErrLimit)
	}
}

func TestNew(t *testing.T) {
	for given, depth := range map[int]int{
		math.MinInt: 0, -1 << 32: 0, -2: 0, -1: 0, 0: 0, 1: 1, 2: 2, api.MaxDepth - 1: api.MaxDepth - 1, api.MaxDepth: api.MaxDepth,
		api.MaxDepth + 1: api.MaxDepth, 1 << 16: api.MaxDepth, 1 << 32: api.MaxDepth, 1<<32 + 1: api.MaxDepth, math.MaxInt: api.MaxDepth,
	} {
		checkState(t, event.New(given), nil)
		for n := range depth + 1 {
			want := api.OK
			if n == depth {
				want = api.ErrLimit
			}
			for _, e := range []api.Event{beginList, beginMap, beginTag(1), aBig} {
				checkPut(t, given, opened(n), e, want)
			}
			checkPut(t, given, opened(n), aNull, api.OK)
		}
	}
}

// TestPutOfNodes: at MaxNodes all is as below it.
func TestPutOfNodes(t *testing.T) {
	each := []api.Event{aNull, aBig, aText("a"), beginList, beginMap, beginTag(1)}
	for _, l := range [][]api.Event{
		events([]api.Event{beginList}, times(api.MaxNodes-1, aNull)),
		events([]api.Event{beginMap}, times(api.MaxNodes-1, aNull)),
		events([]api.Event{beginList, beginTag(1), beginMap}, times(api.MaxNodes-4, aText("a")), []api.Event{beginList}),
		events([]api.Event{beginList}, slices.Repeat([]api.Event{beginList, aBig, end, beginMap, end}, (api.MaxNodes-1)/3)),
	} {
		for _, e := range each {
			checkPut(t, api.MaxDepth, l, e, api.ErrLimit)
			checkPut(t, api.MaxDepth, l[:len(l)-2], e, api.OK)
		}
	}
	full := events([]api.Event{beginList}, times(api.MaxNodes-1, aNull))
	checkPut(t, api.MaxDepth, full, end, api.OK)
	checkPut(t, api.MaxDepth, full[:len(full)-1], aBig, api.OK)
	checkPut(t, api.MaxDepth, events(full, []api.Event{end}), aNull, api.ErrForm)
	checkPut(t, api.MaxDepth, events(full[:len(full)-1], []api.Event{beginList, end}), aNull, api.ErrLimit)
	checkPut(t, api.MaxDepth, events(full[:len(full)-1], []api.Event{beginTag(1)}), aNull, api.ErrLimit)
	checkPut(t, api.MaxDepth, events(full[:len(full)-1], []api.Event{beginMap, end}), end, api.OK)
	checkPut(t, api.MaxDepth, events([]api.Event{beginMap}, times(api.MaxNodes-2, aNull)), end, api.OK)
}

// TestPutOfFormAndLimit: ErrForm comes first.
func TestPutOfFormAndLimit(t *testing.T) {
	wrong := []api.Event{
		{K: api.KList, N: 1}, {K: api.KMap, S: "a"}, {K: api.KTag, Neg: true}, {K: api.KBig, S: big(8)}, {K: api.KBig, N: 1, S: big(9)}, {K: api.KBig, S: big(api.MaxBig + 1)},
		noEvent, aText("\xFF"), {K: api.KEnd, N: 1}, {K: api.KNull, N: 1},
	}
	many := events([]api.Event{beginList}, times(api.MaxNodes-1, aNull))
	for _, e := range wrong {
		checkPut(t, 0, nil, e, api.ErrForm)
		checkPut(t, 3, opened(3), e, api.ErrForm)
		checkPut(t, api.MaxDepth, opened(api.MaxDepth), e, api.ErrForm)
		checkPut(t, api.MaxDepth, many, e, api.ErrForm)
		checkPut(t, 1, many, e, api.ErrForm)
	}
	for _, e := range []api.Event{beginList, beginMap, beginTag(1), aBig, aNull} {
		// Behind a whole value.
		checkPut(t, 0, []api.Event{aNull}, e, api.ErrForm)
		checkPut(t, 1, []api.Event{beginTag(1), aNull}, e, api.ErrForm)
		checkPut(t, api.MaxDepth, events(many, []api.Event{end}), e, api.ErrForm)
		checkPut(t, 1, events(many, []api.Event{end}), e, api.ErrForm)
	}
	manyAndTag := events([]api.Event{beginList}, times(api.MaxNodes-2, aNull), []api.Event{beginTag(2)})
	checkPut(t, 2, manyAndTag, someBytes(big(9)), api.ErrForm)
	checkPut(t, 2, manyAndTag, someBytes(big(8)), api.ErrLimit)
	checkPut(t, 2, manyAndTag, aBig, api.ErrLimit)
	checkPut(t, 2, manyAndTag, end, api.ErrForm)
	checkPut(t, 2, events([]api.Event{beginMap}, times(api.MaxNodes-1, aNull)), end, api.ErrForm)
}

// TestPutOfAll: every way to go on of few events, at each small depth.
func TestPutOfAll(t *testing.T) {
	each := []api.Event{aNull, aBig, someBytes(big(9)), someBytes("a"), beginList, beginMap, beginTag(1), beginTag(2), end, aText("\xFF"), {K: api.KEnd, N: 1}}
	var goOn func(depth, more int, l []api.Event)
	goOn = func(depth, more int, l []api.Event) {
		for _, e := range each {
			want := wantPut(depth, l, e)
			checkPut(t, depth, l, e, want)
			if want == api.OK && more > 0 {
				goOn(depth, more-1, append(slices.Clone(l), e))
			}
		}
	}
	for depth := range 4 {
		goOn(depth, 5, nil)
	}
}

// TestPutOfMany: builds go on as if those events that they refused had not been.
func TestPutOfMany(t *testing.T) {
	c := chance(94)
	found := map[api.Errno]int{}
	for range 4000 {
		depth := c.below(7)
		b := event.New(depth)
		var l []api.Event
		due := wantEvents(c.tree(5))
		for range 40 {
			e := c.event()
			if c.below(3) > 0 && len(due) > 0 {
				e, due = due[0], due[1:]
			}
			want := wantPut(depth, l, e)
			found[want]++
			if got := b.Put(e); got != want {
				t.Fatalf("New(%d), %s, Put(%s): %v, want %v", depth, toldAll(l), told(e), got, want)
			}
			if want == api.OK {
				l = append(l, e)
			}
			checkState(t, b, l)
		}
	}
	for _, e := range []api.Errno{api.OK, api.ErrForm, api.ErrLimit} {
		if found[e] < 1000 {
			t.Errorf("%d events of %v alone", found[e], e)
		}
	}
}
