package event

import (
	"glossator/api"
	"glossator/value"
)

// Build is a tree that is built event by event.
type Build struct {
	most  int // how deep the tree may be
	count int
	stack []open // the bottom first; one that no call made has none
}

// New tells a tree without events that may be so deep.
func New(depth int) *Build {
	return &Build{most: min(max(depth, 0), api.MaxDepth), stack: []open{bottom()}}
}

// Put goes on by the event.
func (b *Build) Put(event api.Event) api.Errno {
	if !b.isMade() {
		return api.ErrZero
	}
	if e := b.refusal(event); e != api.OK {
		return e
	}
	switch event.K {
	case api.KEnd:
		b.end()
	case api.KList, api.KMap, api.KTag:
		b.count++
		b.stack = append(b.stack, begun(event))
	default:
		b.count++
		b.add(least(event))
	}
	return api.OK
}

// Done tells whether a value is there whole.
func (b *Build) Done() bool {
	return b.isMade() && len(b.stack[0].part.L) > 0
}

// Value tells the value, if it is whole.
func (b *Build) Value() (api.Value, api.Errno) {
	switch {
	case !b.isMade():
		return api.Value{}, api.ErrZero
	case !b.Done():
		return api.Value{}, api.ErrShort
	}
	return value.At(b.stack[0].part.L[0]) // new memory, which the caller may change
}

// Depth tells in how many lists, maps and tags the next event stands.
func (b *Build) Depth() int {
	if !b.isMade() {
		return 0
	}
	return len(b.stack) - 1
}

// Count tells how many values there are, those that are open too.
func (b *Build) Count() int {
	if !b.isMade() {
		return 0
	}
	return b.count
}

func (b *Build) isMade() bool {
	return b != nil && len(b.stack) > 0
}

func (b *Build) top() open {
	return b.stack[len(b.stack)-1]
}

// refusal tells why the tree can't go on by the event.
func (b *Build) refusal(event api.Event) api.Errno {
	if !isEvent(event) || !b.top().takes(event) {
		return api.ErrForm
	}
	switch event.K {
	case api.KEnd:
		return api.OK
	case api.KList, api.KMap, api.KTag, api.KBig: // a KBig can be written as a tag of bytes
		if b.Depth() == b.most {
			return api.ErrLimit
		}
		fallthrough
	default:
		if b.count == api.MaxNodes {
			return api.ErrLimit
		}
	}
	return api.OK
}

// end makes whole what was begun last.
func (b *Build) end() {
	v := api.Value(*b.top().part)
	b.stack = b.stack[:len(b.stack)-1]
	b.add(v)
}

// add puts a whole value where the next one comes.
func (b *Build) add(v api.Value) {
	p := b.top().part
	p.L = append(p.L, v)
	if p.K == api.KTag {
		b.end()
	}
}
