package event_test

import (
	"math"
	"strings"
	"testing"

	"glossator/api"
	"glossator/event"
)

func TestEvents(t *testing.T) {
	one := api.Event{K: api.KInt, N: 1}
	for _, x := range []struct {
		v    api.Value
		want []api.Event
	}{
		{null(), []api.Event{aNull}},
		{api.Value{K: api.KInt, Neg: true, N: 7}, []api.Event{{K: api.KInt, Neg: true, N: 7}}},
		{great(big(9)), []api.Event{aBig}},
		{list(), []api.Event{beginList, end}},
		{pairs(), []api.Event{beginMap, end}},
		{list(null()), []api.Event{beginList, aNull, end}},
		{pairs(whole(1), null()), []api.Event{beginMap, one, aNull, end}},
		{tag(7, whole(1)), []api.Event{beginTag(7), one}},
		{tag(7, list()), []api.Event{beginTag(7), beginList, end}},
		{tag(2, bytes("a")), []api.Event{beginTag(2), someBytes("a")}},
		{list(whole(1), null(), text("a")), []api.Event{beginList, one, aNull, aText("a"), end}},
		{list(list(null()), pairs(), whole(1)), []api.Event{beginList, beginList, aNull, end, beginMap, end, one, end}},
		{list(tag(7, tag(8, whole(1))), null()), []api.Event{beginList, beginTag(7), beginTag(8), one, aNull, end}},
		{pairs(list(null()), pairs(null(), list()), whole(1), tag(7, pairs())), []api.Event{beginMap, beginList, aNull, end, beginMap, aNull, beginList, end, end, one, beginTag(7), beginMap, end, end}},
	} {
		checkEvents(t, x.v, x.want, api.OK)
	}
	for _, v := range trees() {
		checkEvents(t, v, wantEvents(v), api.OK)
		if len(v.L) == 0 {
			v.L = []api.Value{} // the same as nil
			checkEvents(t, v, wantEvents(v), api.OK)
		}
	}
}

// TestEventsOfWrong: each way in which a tree is none, at the root and within.
func TestEventsOfWrong(t *testing.T) {
	wrong := []api.Value{
		{K: -1}, {K: api.KEnd}, {K: math.MaxInt}, {K: math.MinInt},
		{K: api.KNull, Neg: true}, {K: api.KNull, N: 1}, {K: api.KNull, S: "a"}, {K: api.KUndef, L: nulls(1)},
		{K: api.KBool, N: 2}, {K: api.KSimple, N: 20}, {K: api.KSimple, N: 31}, {K: api.KSimple, N: 256}, {K: api.KInt, S: "a"}, {K: api.KInt, L: nulls(2)},
		{K: api.KBig, S: big(8)}, {K: api.KBig, S: big(api.MaxBig + 1)}, {K: api.KBig, S: "\x00" + big(9)}, {K: api.KBig, N: 1, S: big(9)},
		{K: api.KF16, N: 1 << 16}, {K: api.KF32, N: 1 << 32}, {K: api.KF64, Neg: true}, {K: api.KBytes, N: 1}, {K: api.KText, S: "\xFF"}, {K: api.KText, S: "\xE2\x82"},
		{K: api.KList, N: 1}, {K: api.KList, S: "a", L: nulls(1)}, {K: api.KMap, Neg: true}, pairs(null()), pairs(nulls(3)...),
		tag(1), tag(1, nulls(2)...), {K: api.KTag, S: "a", L: nulls(1)}, tag(2, bytes(big(9))), tag(3, bytes(big(api.MaxBig))), {K: api.KExt, N: 256}, {K: api.KExt, Neg: true},
	}
	for _, v := range wrong {
		for _, x := range []api.Value{v, list(v), list(null(), v, null()), pairs(v, null()), pairs(null(), v), tag(4, v), within(20, v)} {
			checkEvents(t, x, nil, api.ErrValue)
		}
		checkEvents(t, within(api.MaxDepth+1, v), nil, api.ErrLong)
	}
	for _, v := range []api.Value{
		within(api.MaxDepth+1, null()), within(api.MaxDepth, list()), within(api.MaxDepth, great(big(9))), within(1<<12, null()), list(null(), within(api.MaxDepth, null())),
		list(nulls(api.MaxNodes)...), pairs(nulls(api.MaxNodes)...), tag(1, list(nulls(api.MaxNodes-1)...)), pairs(nulls(api.MaxNodes + 1)...),
	} {
		checkEvents(t, v, nil, api.ErrLong)
	}
}

// TestEventsAreApart: what is handed in stays, and what is answered is the
// caller's.
func TestEventsAreApart(t *testing.T) {
	for _, v := range trees() {
		before := copied(v)
		first, _ := event.Events(v)
		for i := range first {
			first[i] = noEvent
		}
		if !same(v, before) {
			t.Fatalf("Events changed its argument")
		}
		checkEvents(t, v, wantEvents(v), api.OK)
	}
}

func TestEventsOfMany(t *testing.T) {
	c := chance(91)
	for range 5000 {
		v := c.tree(5)
		checkEvents(t, v, wantEvents(v), api.OK)
		x := list(v, api.Value{K: api.KText, S: strings.Repeat("a", c.below(3)) + "\xC3"}, v)
		checkEvents(t, x, nil, api.ErrValue)
	}
}
