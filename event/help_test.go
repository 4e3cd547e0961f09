package event_test

import (
	"slices"
	"strconv"
	"strings"
	"testing"
	"unicode/utf8"

	"glossator/api"
	"glossator/event"
)

const maxUint64 = 1<<64 - 1

func null() api.Value               { return api.Value{K: api.KNull} }
func whole(n uint64) api.Value      { return api.Value{K: api.KInt, N: n} }
func great(s string) api.Value      { return api.Value{K: api.KBig, S: s} }
func bytes(s string) api.Value      { return api.Value{K: api.KBytes, S: s} }
func text(s string) api.Value       { return api.Value{K: api.KText, S: s} }
func list(l ...api.Value) api.Value { return api.Value{K: api.KList, L: l} }

// pairs is a map of a key, its value, and so on.
func pairs(l ...api.Value) api.Value { return api.Value{K: api.KMap, L: l} }

func tag(n uint64, l ...api.Value) api.Value { return api.Value{K: api.KTag, N: n, L: l} }

// nulls are n values without others.
func nulls(n int) []api.Value { return make([]api.Value, n) }

// within is v within so many lists.
func within(lists int, v api.Value) api.Value {
	for range lists {
		v = list(v)
	}
	return v
}

// big is what a KBig of n bytes has as S.
func big(n int) string { return "\x01" + strings.Repeat("\x00", n-1) }

// The events, in few letters.
var (
	beginList = api.Event{K: api.KList}
	beginMap  = api.Event{K: api.KMap}
	end       = api.Event{K: api.KEnd}
	aNull     = api.Event{K: api.KNull}
	aBig      = api.Event{K: api.KBig, S: big(9)}
	noEvent   = api.Event{K: -1}
)

func beginTag(n uint64) api.Event { return api.Event{K: api.KTag, N: n} }
func aText(s string) api.Event    { return api.Event{K: api.KText, S: s} }
func someBytes(s string) api.Event {
	return api.Event{K: api.KBytes, S: s}
}

// times is an event so many times.
func times(n int, e api.Event) []api.Event {
	return slices.Repeat([]api.Event{e}, n)
}

// events are l one behind the other.
func events(l ...[]api.Event) []api.Event {
	return slices.Concat(l...)
}

// leaves are right values without others, of each kind, and at each kind's ends.
func leaves() []api.Value {
	out := []api.Value{
		null(), {K: api.KUndef}, {K: api.KBool}, {K: api.KBool, N: 1},
		whole(0), whole(maxUint64), {K: api.KInt, Neg: true}, {K: api.KInt, Neg: true, N: maxUint64},
		{K: api.KF16, N: 1}, {K: api.KF16, N: 1<<16 - 1}, {K: api.KF32, N: 1 << 31}, {K: api.KF32, N: 1<<32 - 1}, {K: api.KF64}, {K: api.KF64, N: maxUint64},
		bytes(""), bytes("\xFF\x00"), bytes(big(8)), bytes(big(9)), bytes(strings.Repeat("\x80", 5000)),
		text(""), text("a\x00"), text(strings.Repeat("\u20AC", 5000)),
		{K: api.KExt}, {K: api.KExt, N: 255, S: "\xFF"},
	}
	for _, n := range []uint64{0, 19, 32, 255} {
		out = append(out, api.Value{K: api.KSimple, N: n})
	}
	for _, n := range []int{9, 10, api.MaxBig - 1, api.MaxBig} {
		out = append(out, great(big(n)), api.Value{K: api.KBig, Neg: true, S: strings.Repeat("\xFF", n)})
	}
	return out
}

// leafOfEach are leaves, made once.
var leafOfEach = leaves()

// trees are right trees of every kind, and of all within one another.
func trees() []api.Value {
	out := leaves()
	for _, v := range leaves() {
		out = append(out, list(v), list(v, v, v), pairs(v, v), pairs(null(), v, v, null()), tag(4, v), tag(4, list(v)), list(tag(4, v), v))
		if v.K != api.KBytes {
			out = append(out, tag(2, v), tag(3, v))
		}
	}
	inner := []api.Value{list(), pairs(), list(null()), pairs(null(), whole(1)), tag(1, null()), tag(2, bytes("a")), tag(3, tag(2, list()))}
	for _, v := range inner {
		out = append(out, v, list(v), list(v, null()), list(null(), v), list(v, v), pairs(v, null()), pairs(null(), v), pairs(v, v, v, v), tag(0, v), tag(3, v), tag(maxUint64, v))
		for _, x := range inner {
			out = append(out, list(v, x), pairs(v, x), tag(2, list(x, v)), pairs(tag(7, v), pairs(x, tag(8, v))), list(list(v), pairs(x, null()), tag(1, v)))
		}
	}
	out = append(out,
		within(api.MaxDepth, null()), within(api.MaxDepth-1, list()), within(api.MaxDepth-1, great(big(9))), list(within(api.MaxDepth-1, null()), null()),
		list(nulls(api.MaxNodes-1)...), pairs(nulls(api.MaxNodes-2)...), tag(1, list(nulls(api.MaxNodes-2)...)),
		tag(2, bytes("")), tag(2, bytes("\x00"+big(8))), tag(3, bytes(big(api.MaxBig+1))),
	)
	return out
}

// chance tells numbers that look like chance but are the same in each run.
type chance uint64

func (c *chance) word() uint64 {
	*c ^= *c << 13
	*c ^= *c >> 7
	*c ^= *c << 17
	return uint64(*c) * 0x2545F4914F6CDD1D
}

func (c *chance) below(n int) int {
	return int(c.word() >> 1 % uint64(n))
}

// tree is a right one that is no deeper than depth, but for a KBig at its
// bottom.
func (c *chance) tree(depth int) api.Value {
	if depth == 0 || c.below(3) == 0 {
		return leafOfEach[c.below(len(leafOfEach))]
	}
	switch c.below(3) {
	case 0:
		v := tag(uint64(c.below(5)), c.tree(depth-1))
		if !wantRight(v) { // bytes of a KBig
			v.N = 4
		}
		return v
	case 1:
		return pairs(c.trees(2*c.below(3), depth-1)...)
	}
	return list(c.trees(c.below(5), depth-1)...)
}

func (c *chance) trees(n, depth int) []api.Value {
	var out []api.Value
	for range n {
		out = append(out, c.tree(depth))
	}
	return out
}

// event is any one, right or not.
func (c *chance) event() api.Event {
	switch c.below(8) {
	case 0:
		return beginList
	case 1:
		return beginMap
	case 2:
		return beginTag(uint64(c.below(5)))
	case 3, 4:
		return end
	}
	v := leafOfEach[c.below(len(leafOfEach))]
	e := api.Event{K: v.K, Neg: v.Neg, N: v.N, S: v.S}
	switch c.below(12) {
	case 0:
		e.K = c.below(20) - 2
	case 1:
		e.Neg = !e.Neg
	case 2:
		e.N = c.word() >> c.below(64)
	case 3:
		e.S = []string{"", "a", "\xFF", big(8), big(9), "\x00" + big(9)}[c.below(6)]
	}
	return e
}

// copied shares no list with v.
func copied(v api.Value) api.Value {
	var l []api.Value
	for _, x := range v.L {
		l = append(l, copied(x))
	}
	v.L = l
	return v
}

// same tells whether two trees are the same.
func same(a, b api.Value) bool {
	if a.K != b.K || a.Neg != b.Neg || a.N != b.N || a.S != b.S || len(a.L) != len(b.L) {
		return false
	}
	for i := range a.L {
		if !same(a.L[i], b.L[i]) {
			return false
		}
	}
	return true
}

func wantBig(s string) bool {
	return len(s) > 8 && len(s) <= api.MaxBig && s[0] > 0
}

// wantRight tells whether v is a right tree, by the document's words.
func wantRight(v api.Value) bool {
	for _, x := range v.L {
		if !wantRight(x) {
			return false
		}
	}
	bare := !v.Neg && v.N == 0 && v.S == ""
	justN := !v.Neg && v.S == "" && len(v.L) == 0
	justS := !v.Neg && v.N == 0 && len(v.L) == 0
	switch v.K {
	case api.KNull, api.KUndef:
		return bare && len(v.L) == 0
	case api.KBool:
		return justN && v.N < 2
	case api.KSimple:
		return justN && (v.N < 20 || v.N > 31) && v.N < 256
	case api.KInt:
		return v.S == "" && len(v.L) == 0
	case api.KBig:
		return v.N == 0 && len(v.L) == 0 && wantBig(v.S)
	case api.KF16:
		return justN && v.N < 1<<16
	case api.KF32:
		return justN && v.N < 1<<32
	case api.KF64:
		return justN
	case api.KBytes:
		return justS
	case api.KText:
		return justS && utf8.ValidString(v.S)
	case api.KList:
		return bare
	case api.KMap:
		return bare && len(v.L)&1 == 0
	case api.KTag:
		if v.Neg || v.S != "" || len(v.L) != 1 {
			return false
		}
		return v.N != 2 && v.N != 3 || v.L[0].K != api.KBytes || !wantBig(v.L[0].S)
	case api.KExt:
		return !v.Neg && len(v.L) == 0 && v.N < 256
	}
	return false
}

// wantDepth is how deep v is.
func wantDepth(v api.Value) int {
	if v.K == api.KBig {
		return 1
	}
	if v.K != api.KList && v.K != api.KMap && v.K != api.KTag {
		return 0
	}
	out := 1
	for _, x := range v.L {
		out = max(out, 1+wantDepth(x))
	}
	return out
}

// wantCount is how many values v has.
func wantCount(v api.Value) int {
	out := 1
	for _, x := range v.L {
		out += wantCount(x)
	}
	return out
}

// wantEvents are the events of v, by the document's words.
func wantEvents(v api.Value) []api.Event {
	out := []api.Event{{K: v.K, Neg: v.Neg, N: v.N, S: v.S}}
	if v.K == api.KTag {
		return append(out, wantEvents(v.L[0])...)
	}
	for _, x := range v.L {
		out = append(out, wantEvents(x)...)
	}
	if v.K == api.KList || v.K == api.KMap {
		out = append(out, end)
	}
	return out
}

// grown is what events make, by the document's words: a tree, as far as they
// go, whether it is whole, how many values are open, and those events that go
// on behind it; not ok, if they are no events of a right tree.
type grown struct {
	v     api.Value
	whole bool
	open  int
	rest  []api.Event
	ok    bool
}

func grow(l []api.Event) grown {
	if len(l) == 0 {
		return grown{ok: true}
	}
	e := l[0]
	v := api.Value{K: e.K, Neg: e.Neg, N: e.N, S: e.S}
	switch e.K {
	case api.KList, api.KMap:
		if !wantRight(v) {
			return grown{}
		}
		return growMany(v, l[1:])
	case api.KTag:
		if e.Neg || e.S != "" {
			return grown{}
		}
		return growTag(v, l[1:])
	}
	return grown{v: v, whole: true, rest: l[1:], ok: wantRight(v)}
}

func growMany(v api.Value, l []api.Event) grown {
	for len(l) > 0 {
		if l[0].K == api.KEnd {
			right := l[0] == end && (v.K == api.KList || len(v.L)%2 == 0)
			return grown{v: v, whole: true, rest: l[1:], ok: right}
		}
		x := grow(l)
		if !x.ok {
			return grown{}
		}
		v.L = append(v.L, x.v)
		if !x.whole {
			return grown{v: v, open: 1 + x.open, ok: true}
		}
		l = x.rest
	}
	return grown{v: v, open: 1, ok: true}
}

func growTag(v api.Value, l []api.Event) grown {
	if len(l) == 0 {
		return grown{v: v, open: 1, ok: true}
	}
	x := grow(l)
	if !x.ok || (v.N == 2 || v.N == 3) && l[0].K == api.KBytes && wantBig(l[0].S) {
		return grown{}
	}
	v.L = []api.Value{x.v}
	if !x.whole {
		return grown{v: v, open: 1 + x.open, ok: true}
	}
	return grown{v: v, whole: true, rest: x.rest, ok: true}
}

// wantPut is what Put of e is to tell behind the events l, which it took.
func wantPut(depth int, l []api.Event, e api.Event) api.Errno {
	g := grow(append(slices.Clone(l), e))
	switch {
	case !g.ok || len(g.rest) > 0:
		return api.ErrForm
	case wantDepth(g.v) > min(max(depth, 0), api.MaxDepth) || wantCount(g.v) > api.MaxNodes:
		return api.ErrLimit
	}
	return api.OK
}

// told is an event in few words.
func told(e api.Event) string {
	s := strconv.Quote(e.S)
	if len(s) > 40 {
		s = s[:40] + " .. (" + strconv.Itoa(len(e.S)) + " bytes)"
	}
	return "{K " + strconv.Itoa(e.K) + " Neg " + strconv.FormatBool(e.Neg) + " N " + strconv.FormatUint(e.N, 16) + " S " + s + "}"
}

// toldAll are events in few words.
func toldAll(l []api.Event) string {
	if len(l) > 20 {
		return toldAll(l[:20]) + " .. (" + strconv.Itoa(len(l)) + " events)"
	}
	out := ""
	for _, e := range l {
		out += " " + told(e)
	}
	return out
}

// puts is a build of the depth behind events that it must take.
func puts(t *testing.T, depth int, l ...api.Event) *event.Build {
	t.Helper()
	b := event.New(depth)
	for i, x := range l {
		if e := b.Put(x); e != api.OK {
			t.Fatalf("Put(%s) behind %s: %v", told(x), toldAll(l[:i]), e)
		}
	}
	return b
}

// checkPut asks a build that took l to go on by e. If it must not, nothing is
// to have changed.
func checkPut(t *testing.T, depth int, l []api.Event, e api.Event, want api.Errno) {
	t.Helper()
	b := puts(t, depth, l...)
	if got := b.Put(e); got != want {
		t.Fatalf("New(%d), %s, Put(%s): %v, want %v", depth, toldAll(l), told(e), got, want)
	}
	if want == api.OK {
		l = append(slices.Clone(l), e)
	}
	checkState(t, b, l)
}

// checkState asks a build that took l for all that it tells.
func checkState(t *testing.T, b *event.Build, l []api.Event) {
	t.Helper()
	g := grow(l)
	wantE, want := api.ErrShort, api.Value{}
	if g.whole {
		wantE, want = api.OK, g.v
	}
	count := 0
	if len(l) > 0 {
		count = wantCount(g.v)
	}
	if b.Done() != g.whole || b.Depth() != g.open || b.Count() != count {
		t.Fatalf("behind %s: Done %v, Depth %d, Count %d, want %v, %d, %d", toldAll(l), b.Done(), b.Depth(), b.Count(), g.whole, g.open, count)
	}
	if v, e := b.Value(); !same(v, want) || e != wantE {
		t.Fatalf("behind %s: Value of kind %d with %d within, %v, want %d with %d, %v", toldAll(l), v.K, len(v.L), e, want.K, len(want.L), wantE)
	}
}

func checkEvents(t *testing.T, v api.Value, want []api.Event, wantE api.Errno) {
	t.Helper()
	if got, e := event.Events(v); !slices.Equal(got, want) || e != wantE {
		t.Fatalf("Events of kind %d: %s, %v, want %s, %v", v.K, toldAll(got), e, toldAll(want), wantE)
	}
}

func checkTree(t *testing.T, l []api.Event, want api.Value, wantAt int, wantE api.Errno) {
	t.Helper()
	if v, at, e := event.Tree(l); !same(v, want) || at != wantAt || e != wantE {
		t.Fatalf("Tree(%s): kind %d with %d within, %d, %v, want %d with %d, %d, %v", toldAll(l), v.K, len(v.L), at, e, want.K, len(want.L), wantAt, wantE)
	}
}
