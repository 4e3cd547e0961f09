package event_test

import (
	"slices"
	"testing"

	"glossator/api"
	"glossator/event"
)

func TestTree(t *testing.T) {
	for _, v := range trees() {
		l := wantEvents(v)
		checkTree(t, l, v, len(l), api.OK)
	}
}

func TestTreeOfNone(t *testing.T) {
	checkTree(t, nil, api.Value{}, 0, api.ErrShort)
	checkTree(t, []api.Event{}, api.Value{}, 0, api.ErrShort)
	checkTree(t, []api.Event{end}, api.Value{}, 0, api.ErrForm)
	checkTree(t, []api.Event{noEvent}, api.Value{}, 0, api.ErrForm)
}

// TestTreeOfFew: with each event but the last a tree is not whole.
func TestTreeOfFew(t *testing.T) {
	for _, v := range trees() {
		l := wantEvents(v)
		for n := range min(len(l), 200) {
			checkTree(t, l[:n], api.Value{}, n, api.ErrShort)
		}
		checkTree(t, l[:len(l)-1], api.Value{}, len(l)-1, api.ErrShort)
	}
}

// TestTreeOfTooMany: whatever comes behind a whole value, its place is told.
func TestTreeOfTooMany(t *testing.T) {
	for _, v := range trees() {
		l := wantEvents(v)
		for _, more := range []api.Event{aNull, aBig, beginList, beginMap, beginTag(1), end, noEvent, aText("\xFF")} {
			checkTree(t, append(slices.Clone(l), more), api.Value{}, len(l), api.ErrForm)
			checkTree(t, append(slices.Clone(l), more, end, noEvent), api.Value{}, len(l), api.ErrForm)
		}
	}
}

// TestTreeOfWrong: the first one that errs is told, with its error.
func TestTreeOfWrong(t *testing.T) {
	deep := times(api.MaxDepth, beginList)
	for _, x := range []struct {
		l  []api.Event
		at int
		e  api.Errno
	}{
		{[]api.Event{beginList, aNull, noEvent, end, end}, 2, api.ErrForm},
		{[]api.Event{beginList, aText("\xFF"), noEvent}, 1, api.ErrForm},
		{[]api.Event{beginMap, aNull, end, aNull}, 2, api.ErrForm},
		{[]api.Event{beginList, beginTag(1), end, aNull}, 2, api.ErrForm},
		{[]api.Event{beginList, beginTag(2), someBytes(big(9)), end}, 2, api.ErrForm},
		{[]api.Event{beginList, end, end}, 2, api.ErrForm},
		{[]api.Event{aNull, aNull, noEvent}, 1, api.ErrForm},
		{events(deep, []api.Event{aNull, aBig, noEvent}), api.MaxDepth + 1, api.ErrLimit},
		{events(deep, []api.Event{beginList, noEvent}), api.MaxDepth, api.ErrLimit},
		{events(deep, []api.Event{noEvent, beginList}), api.MaxDepth, api.ErrForm},
		{events([]api.Event{beginList}, times(api.MaxNodes+9, aNull), []api.Event{noEvent}), api.MaxNodes, api.ErrLimit},
	} {
		checkTree(t, x.l, api.Value{}, x.at, x.e)
	}
	for _, v := range trees() {
		l := wantEvents(v)
		for place := range min(len(l), 100) {
			wrong := slices.Insert(slices.Clone(l), place, noEvent)
			checkTree(t, wrong, api.Value{}, place, api.ErrForm)
		}
	}
}

// TestTreeIsApart: what is handed in stays, and what is answered is the caller's.
func TestTreeIsApart(t *testing.T) {
	for _, v := range trees() {
		l := wantEvents(v)
		before := slices.Clone(l)
		got, _, _ := event.Tree(l)
		scribble(got)
		if !slices.Equal(l, before) {
			t.Fatalf("Tree changed its argument")
		}
		checkTree(t, l, v, len(l), api.OK)
	}
}

// scribble writes over all of v, and behind its lists as far as they go.
func scribble(v api.Value) {
	for i := range v.L {
		scribble(v.L[i])
	}
	l := v.L[:cap(v.L)]
	for i := range l {
		l[i] = api.Value{K: -7}
	}
}

// TestTreeAndEvents: each undoes the other.
func TestTreeAndEvents(t *testing.T) {
	all := trees()
	c := chance(92)
	for range 5000 {
		all = append(all, c.tree(6))
	}
	for _, v := range all {
		l, e := event.Events(v)
		if e != api.OK {
			t.Fatalf("Events: %v", e)
		}
		checkTree(t, l, v, len(l), api.OK)
		back, _, _ := event.Tree(l)
		checkEvents(t, back, l, api.OK)
	}
}

// TestEventsOfTaken: whatever events Tree takes, they are those of its value.
func TestEventsOfTaken(t *testing.T) {
	c := chance(93)
	taken := 0
	for range 100000 {
		var l []api.Event
		for range 1 + c.below(7) {
			l = append(l, c.event())
		}
		v, at, e := event.Tree(l)
		checkTreeByWords(t, l, v, at, e)
		if e == api.OK {
			taken++
			checkEvents(t, v, l, api.OK)
		}
	}
	if taken < 1000 {
		t.Errorf("%d trees alone", taken)
	}
}

// checkTreeByWords holds what Tree told against New, Put and Value by the
// document's words.
func checkTreeByWords(t *testing.T, l []api.Event, v api.Value, at int, e api.Errno) {
	t.Helper()
	wantAt, wantE, want := len(l), api.ErrShort, api.Value{}
	for i := range l {
		if refused := wantPut(api.MaxDepth, l[:i], l[i]); refused != api.OK {
			wantAt, wantE = i, refused
			break
		}
	}
	if g := grow(l); wantE == api.ErrShort && g.whole {
		want, wantE = g.v, api.OK
	}
	if !same(v, want) || at != wantAt || e != wantE {
		t.Fatalf("Tree(%s): kind %d, %d, %v, want %d, %d, %v", toldAll(l), v.K, at, e, want.K, wantAt, wantE)
	}
}
