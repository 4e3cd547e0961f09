package event

import (
	"glossator/api"
	"glossator/value"
)

// part is a value within which others come, with those that came so far.
type part api.Value

// open is a part that is not whole.
type open struct {
	part *part
	// takes tells whether an event that right trees have may come next within
	// the part.
	takes func(event api.Event) bool
}

// begun tells what the event begins: a list, a map or a tag.
func begun(event api.Event) open {
	p := &part{K: event.K, N: event.N}
	switch event.K {
	case api.KMap:
		return open{p, p.mapTakes}
	case api.KTag:
		return open{p, p.tagTakes}
	}
	return open{p, p.listTakes}
}

// bottom tells where the root of a tree comes: as if alone in a list that does
// not end.
func bottom() open {
	p := &part{K: api.KList}
	return open{p, p.bottomTakes}
}

func (p *part) bottomTakes(event api.Event) bool {
	return event.K != api.KEnd && len(p.L) == 0
}

func (p *part) listTakes(api.Event) bool {
	return true
}

func (p *part) mapTakes(event api.Event) bool {
	return event.K != api.KEnd || len(p.L)%2 == 0
}

// tagTakes asks for the tag whole, as some tags have no bytes that others have.
func (p *part) tagTakes(event api.Event) bool {
	tag := api.Value{K: api.KTag, N: p.N, L: []api.Value{least(event)}}
	return event.K != api.KEnd && value.Check(tag) == api.OK
}

// isEvent tells whether right trees have the event, wherever that is.
func isEvent(event api.Event) bool {
	if event.K == api.KEnd {
		return event == api.Event{K: api.KEnd}
	}
	return value.Check(least(event)) == api.OK
}

// least is the tree of the fewest values that begins with the event.
func least(event api.Event) api.Value {
	v := api.Value{K: event.K, Neg: event.Neg, N: event.N, S: event.S}
	if event.K == api.KTag {
		v.L = []api.Value{{K: api.KNull}}
	}
	return v
}
