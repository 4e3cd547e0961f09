package json

import (
	"strings"

	"glossator/api"
	"glossator/event"
	"glossator/num"
	"glossator/token"
)

const blanks = "\t\n\r "

// Kinds of tokens that are not signs.
const (
	kindString = 'S'
	kindNumber = 'N'
	kindNull   = 'n'
	kindTrue   = 't'
	kindFalse  = 'f'
)

// reader goes over a text, of which it builds the tree.
type reader struct {
	s      string // the bytes that may be looked at
	isMore bool   // are there others behind s?
	isOnce bool   // as api.Limits has it
	build  *event.Build
	next   expected
	open   []open // the innermost last; the first stands for the text itself
}

// open is a list or a map that is not whole.
type open struct {
	behind expected            // each value that it has
	keys   map[string]struct{} // those so far of a map in which they must differ
}

func newReader(b []byte, l api.Limits) *reader {
	return &reader{
		s:      string(b[:min(len(b), l.Size)]),
		isMore: len(b) > l.Size,
		isOnce: l.Once,
		build:  event.New(l.Depth),
		next:   anyValue,
		open:   []open{{behind: nothing}},
	}
}

// whole reads a text behind which there is nothing.
func (r *reader) whole() error {
	at := r.behindBlanks(0)
	for at < len(r.s) {
		t, err := r.token(at)
		if err == nil {
			err = r.take(t)
		}
		if err != nil {
			return err
		}
		at = r.behindBlanks(t.To)
	}
	if r.isMore || r.next != nothing {
		return r.tooShort()
	}
	return nil
}

func (r *reader) behindBlanks(at int) int {
	return len(r.s) - len(strings.TrimLeft(r.s[at:], blanks))
}

// tooShort refuses the end of what may be looked at: it is the limit if just
// that keeps from looking at more.
func (r *reader) tooShort() error {
	if r.isMore {
		return refuse(len(r.s), api.ErrLimit)
	}
	return refuse(len(r.s), api.ErrShort)
}

// token reads the token that begins at a place, if it may come next.
func (r *reader) token(from int) (token.Token, error) {
	// Ahead of reading it: a token that can't come errs with its first byte,
	// whatever else may be wrong with it.
	if !r.next.takes(r.s[from]) {
		return token.Token{}, refuse(from, api.ErrForm)
	}
	t, place, e := token.Next(r.s, from)
	isCut := t.Kind == kindNumber && place == len(r.s) && r.isMore
	if e == api.ErrShort || isCut {
		return t, r.tooShort()
	}
	return t, refuse(place, e)
}

// take goes on by a token that may come next.
func (r *reader) take(t token.Token) error {
	switch t.Kind {
	case '[':
		return r.begin(t, api.KList, firstValue, moreValues)
	case '{':
		return r.begin(t, api.KMap, firstKey, morePairs)
	case ']', '}':
		r.open = r.open[:len(r.open)-1]
		return r.value(t, api.Event{K: api.KEnd})
	case ',':
		r.next = behindComma(r.next)
	case ':':
		r.next = anyValue
	case kindNull:
		return r.value(t, api.Event{K: api.KNull})
	case kindTrue:
		return r.value(t, api.Event{K: api.KBool, N: 1})
	case kindFalse:
		return r.value(t, api.Event{K: api.KBool})
	case kindNumber:
		return r.number(t)
	case kindString:
		return r.text(t)
	}
	return nil
}

func behindComma(x expected) expected {
	if x == morePairs {
		return anyKey
	}
	return anyValue
}

func (r *reader) top() open {
	return r.open[len(r.open)-1]
}

// put hands the tree an event of the value that begins with t.
func (r *reader) put(t token.Token, event api.Event) error {
	return refuse(t.From, r.build.Put(event))
}

// begin opens a list or a map.
func (r *reader) begin(t token.Token, kind int, first, behind expected) error {
	inside := open{behind: behind}
	if r.isOnce && kind == api.KMap {
		inside.keys = map[string]struct{}{}
	}
	r.open = append(r.open, inside)
	r.next = first
	return r.put(t, api.Event{K: kind})
}

// value ends a value by its last event.
func (r *reader) value(t token.Token, event api.Event) error {
	r.next = r.top().behind
	return r.put(t, event)
}

func (r *reader) number(t token.Token) error {
	v, e := num.Value(t.Text)
	if e != api.OK {
		return refuse(t.From, e)
	}
	return r.value(t, api.Event{K: v.K, Neg: v.Neg, N: v.N, S: v.S})
}

// text takes a string, which may be a key.
func (r *reader) text(t token.Token) error {
	text := api.Event{K: api.KText, S: t.Text}
	if r.next == anyValue || r.next == firstValue {
		return r.value(t, text)
	}
	r.next = colon
	// The key's first byte goes ahead of its last, where it errs if it is there
	// already.
	if err := r.put(t, text); err != nil {
		return err
	}
	return r.once(t)
}

// once refuses a key that the map has, if keys must differ.
func (r *reader) once(t token.Token) error {
	if !r.isOnce {
		return nil
	}
	keys := r.top().keys
	if _, is := keys[t.Text]; is {
		return refuse(t.To-1, api.ErrForm)
	}
	keys[t.Text] = struct{}{}
	return nil
}
