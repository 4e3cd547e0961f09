package event_test

import (
	"testing"

	"glossator/api"
	"glossator/event"
)

// TestBuildInSteps: what a build tells ahead of the first event, behind each,
// and behind the last.
func TestBuildInSteps(t *testing.T) {
	b := event.New(9)
	checkTold(t, b, false, 0, 0)
	for _, x := range []struct {
		event        api.Event
		done         bool
		depth, count int
	}{
		{beginMap, false, 1, 1},
		{beginList, false, 2, 2},
		{aNull, false, 2, 3},
		{end, false, 1, 3},
		{beginTag(1), false, 2, 4},
		{beginTag(2), false, 3, 5},
		{aBig, false, 1, 6}, // both tags end with it
		{beginTag(1), false, 2, 7},
		{beginList, false, 3, 8},
		{beginMap, false, 4, 9},
		{end, false, 3, 9},
		{end, false, 1, 9},
		{aNull, false, 1, 10},
		{end, true, 0, 10},
	} {
		if e := b.Put(x.event); e != api.OK {
			t.Fatalf("Put(%s): %v", told(x.event), e)
		}
		checkTold(t, b, x.done, x.depth, x.count)
		// An error changes nothing.
		if e := b.Put(noEvent); e != api.ErrForm {
			t.Fatalf("Put(%s): %v", told(noEvent), e)
		}
		checkTold(t, b, x.done, x.depth, x.count)
	}
	want := pairs(list(null()), tag(1, tag(2, great(big(9)))), tag(1, list(pairs())), null())
	if v, e := b.Value(); !same(v, want) || e != api.OK {
		t.Errorf("Value: kind %d with %d within, %v", v.K, len(v.L), e)
	}
}

func checkTold(t *testing.T, b *event.Build, done bool, depth, count int) {
	t.Helper()
	if b.Done() != done || b.Depth() != depth || b.Count() != count {
		t.Fatalf("Done %v, Depth %d, Count %d, want %v, %d, %d", b.Done(), b.Depth(), b.Count(), done, depth, count)
	}
	want := api.ErrShort
	if done {
		want = api.OK
	}
	if v, e := b.Value(); e != want || !done && !same(v, api.Value{}) {
		t.Fatalf("Value: kind %d, %v, want %v", v.K, e, want)
	}
}

// TestBuildOfEach: what a build tells behind each event of trees.
func TestBuildOfEach(t *testing.T) {
	for _, v := range trees() {
		l := wantEvents(v)
		b := event.New(api.MaxDepth)
		for i, x := range l {
			if e := b.Put(x); e != api.OK {
				t.Fatalf("Put(%s): %v", told(x), e)
			}
			if i < 100 || i > len(l)-3 {
				checkState(t, b, l[:i+1])
			}
		}
	}
}

// TestBuildBehindErrors: it goes on as if they had not been.
func TestBuildBehindErrors(t *testing.T) {
	for _, v := range trees() {
		l := wantEvents(v)
		if len(l) > 200 {
			continue
		}
		depth := wantDepth(v)
		b := event.New(depth)
		for i, x := range l {
			for _, other := range []api.Event{noEvent, end, beginList, beginMap, beginTag(1), aBig, someBytes(big(9)), aText("\xFF"), {K: api.KList, N: 1}} {
				if want := wantPut(depth, l[:i], other); want != api.OK {
					if e := b.Put(other); e != want {
						t.Fatalf("Put(%s) behind %s: %v, want %v", told(other), toldAll(l[:i]), e, want)
					}
				}
			}
			checkState(t, b, l[:i])
			if e := b.Put(x); e != api.OK {
				t.Fatalf("Put(%s) behind %s: %v", told(x), toldAll(l[:i]), e)
			}
		}
		checkState(t, b, l)
	}
}

// TestValueIsApart: each answer is its caller's.
func TestValueIsApart(t *testing.T) {
	for _, v := range trees() {
		b := puts(t, api.MaxDepth, wantEvents(v)...)
		for range 2 {
			got, e := b.Value()
			if !same(got, v) || e != api.OK {
				t.Fatalf("Value: kind %d with %d within, %v", got.K, len(got.L), e)
			}
			scribble(got)
		}
	}
}

// TestBuildsAreApart: no build hangs on another.
func TestBuildsAreApart(t *testing.T) {
	one, other := event.New(3), event.New(1)
	for _, x := range []struct {
		b     *event.Build
		event api.Event
		want  api.Errno
	}{
		{one, beginMap, api.OK}, {other, beginList, api.OK}, {one, aNull, api.OK}, {other, end, api.OK}, {one, end, api.ErrForm}, {other, aNull, api.ErrForm}, {one, beginTag(2), api.OK}, {one, beginList, api.OK},
		{one, someBytes(big(9)), api.OK}, {one, end, api.OK}, {one, end, api.OK},
	} {
		if e := x.b.Put(x.event); e != x.want {
			t.Fatalf("Put(%s): %v, want %v", told(x.event), e, x.want)
		}
	}
	checkTold(t, one, true, 0, 5)
	checkTold(t, other, true, 0, 1)
}

func TestBuildThatNoCallMade(t *testing.T) {
	var zero event.Build
	for name, b := range map[string]*event.Build{"nil": nil, "zero": &zero, "new": new(event.Build)} {
		for range 2 {
			for _, x := range []api.Event{aNull, aBig, beginList, beginMap, beginTag(1), end, noEvent, aText("\xFF")} {
				if e := b.Put(x); e != api.ErrZero {
					t.Errorf("Put(%s) of a %s build: %v", told(x), name, e)
				}
				if v, e := b.Value(); !same(v, api.Value{}) || e != api.ErrZero {
					t.Errorf("Value of a %s build: kind %d, %v", name, v.K, e)
				}
				if b.Done() || b.Depth() != 0 || b.Count() != 0 {
					t.Errorf("a %s build: Done %v, Depth %d, Count %d", name, b.Done(), b.Depth(), b.Count())
				}
			}
		}
	}
}
