package json

import (
	"slices"
	"strings"

	"glossator/api"
	"glossator/esc"
	"glossator/num"
)

// writer appends texts.
type writer struct {
	out    []byte
	option api.Option
	level  int // in how many lists and maps the next value stands
}

// pair is a key of a map and its value.
type pair struct {
	key, value api.Value
}

// value writes v, which is right, or refuses what has no text.
func (w *writer) value(v api.Value) api.Errno {
	switch v.K {
	case api.KNull:
		w.say("null")
	case api.KBool:
		w.say([]string{"false", "true"}[v.N])
	case api.KInt, api.KBig, api.KF64:
		return w.part(num.Text(v))
	case api.KText:
		return w.part(esc.Quote(v.S))
	case api.KList:
		return w.many("[", "]", len(v.L), func(place int) api.Errno {
			return w.value(v.L[place])
		})
	case api.KMap:
		pairs := w.pairsOf(v.L)
		return w.many("{", "}", len(pairs), func(place int) api.Errno {
			return w.pair(pairs[place])
		})
	default:
		return api.ErrSay
	}
	return api.OK
}

func (w *writer) say(s string) {
	w.out = append(w.out, s...)
}

// part writes the text of a value, if it has one.
func (w *writer) part(s string, e api.Errno) api.Errno {
	w.say(s)
	return e
}

// many writes so many values or pairs between brackets, and goes on to each of
// them by what.
func (w *writer) many(first, last string, count int, what func(place int) api.Errno) api.Errno {
	w.say(first)
	w.level++
	for place := range count {
		if place > 0 {
			w.say(",")
		}
		w.line()
		if e := what(place); e != api.OK {
			return e
		}
	}
	w.level--
	if count > 0 {
		w.line()
	}
	w.say(last)
	return api.OK
}

// line goes on in a new line, if there are to be lines.
func (w *writer) line() {
	if w.option.Indent > 0 {
		w.say("\n" + strings.Repeat(" ", w.level*w.option.Indent))
	}
}

// pairsOf tells the pairs of l in the order in which they are to be written.
func (w *writer) pairsOf(l []api.Value) []pair {
	out := make([]pair, 0, len(l)/2)
	for place := 0; place < len(l); place += 2 {
		out = append(out, pair{l[place], l[place+1]})
	}
	if w.option.Sort {
		slices.SortStableFunc(out, func(a, b pair) int { return strings.Compare(a.key.S, b.key.S) })
	}
	return out
}

func (w *writer) pair(p pair) api.Errno {
	if p.key.K != api.KText {
		return api.ErrSay
	}
	w.value(p.key) // right, so that it has a text
	w.say(":")
	if w.option.Indent > 0 {
		w.say(" ")
	}
	return w.value(p.value)
}
