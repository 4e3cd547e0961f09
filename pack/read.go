package pack

import (
	"glossator/api"
	"glossator/event"
	"glossator/utf"
)

// reader goes over bytes, of which it builds the tree. With a refusal it stays
// at the place that is to be told.
type reader struct {
	*event.Build
	b      []byte // those that may be looked at
	at     int    // the place of the next one
	size   int    // how many may be looked at
	isMore bool   // are there others behind b?
}

// head is what was read of an item when it is known how long the item is.
type head struct {
	place int
	first byte   // the lowest of its range
	n     uint64 // the place within that range, or the number behind
	width int    // how many bytes the number behind has
}

func newReader(b []byte, l api.Limits) *reader {
	return &reader{
		Build:  event.New(l.Depth),
		b:      b[:min(len(b), l.Size)],
		size:   l.Size,
		isMore: len(b) > l.Size,
	}
}

func (r *reader) refuse(place int, why api.Errno) api.Errno {
	r.at = place
	return why
}

// whole reads an item behind which there is nothing.
func (r *reader) whole() api.Errno {
	if e := r.item(); e != api.OK {
		return e
	}
	switch {
	case r.at < len(r.b):
		return api.ErrForm
	case r.isMore:
		return api.ErrLimit
	}
	return api.OK
}

// item reads an item, which the tree takes.
func (r *reader) item() api.Errno {
	h, e := r.head()
	if e != api.OK {
		return e
	}
	switch h.first {
	case none:
		return r.refuse(h.place, api.ErrForm)
	case null:
		return r.put(h, api.Event{K: api.KNull})
	case fewBool:
		return r.put(h, api.Event{K: api.KBool, N: h.n})
	case float4:
		return r.put(h, api.Event{K: api.KF32, N: h.n})
	case float8:
		return r.put(h, api.Event{K: api.KF64, N: h.n})
	case fewBelow:
		h.n, h.width = fewBelow+h.n, 1
		fallthrough
	case signed1, signed2, signed4, signed8:
		return r.put(h, signed(h.n, h.width))
	case fewWhole, whole1, whole2, whole4, whole8:
		return r.put(h, api.Event{K: api.KInt, N: h.n})
	case bytes1, bytes2, bytes4:
		return r.bytes(h)
	case fewText, text1, text2, text4:
		return r.text(h)
	case fewExt:
		h.n = 1 << h.n
		fallthrough
	case ext1, ext2, ext4:
		return r.ext(h)
	case fewList, list2, list4:
		return r.many(h, api.KList, 1)
	default: // that of a map
		return r.many(h, api.KMap, 2)
	}
}

// head reads a first byte and the number behind it.
func (r *reader) head() (head, api.Errno) {
	h := head{place: r.at}
	first, e := r.take(1)
	if e != api.OK {
		return h, e
	}
	h.first, h.n = split(first[0])
	h.width = width(h.first)
	if h.width == 0 {
		return h, api.OK
	}
	behind, e := r.take(h.width)
	h.n = number(behind)
	return h, e
}

// take reads the next n bytes.
func (r *reader) take(n int) ([]byte, api.Errno) {
	if n <= len(r.b)-r.at {
		r.at += n
		return r.b[r.at-n : r.at], api.OK
	}
	if r.isMore {
		return nil, r.refuse(len(r.b), api.ErrLimit)
	}
	return nil, r.refuse(len(r.b), api.ErrShort)
}

// put hands the tree an event of the item that h begins.
func (r *reader) put(h head, event api.Event) api.Errno {
	if e := r.Put(event); e != api.OK {
		return r.refuse(h.place, e)
	}
	return api.OK
}

// signed is the number of so many bytes with a sign.
func signed(n uint64, width int) api.Event {
	above := 64 - 8*width
	whole := int64(n<<above) >> above
	if whole < 0 {
		return api.Event{K: api.KInt, Neg: true, N: uint64(-1 - whole)}
	}
	return api.Event{K: api.KInt, N: uint64(whole)}
}

// bound refuses an item of so many parts, of each at least so many bytes, that
// it would end too far behind.
func (r *reader) bound(h head, parts uint64, each int) api.Errno {
	if parts > uint64((r.size-r.at)/each) {
		return r.refuse(h.place, api.ErrLimit)
	}
	return api.OK
}

// bytes reads bytes behind their head.
func (r *reader) bytes(h head) api.Errno {
	if e := r.bound(h, h.n, 1); e != api.OK {
		return e
	}
	b, e := r.take(int(h.n))
	if e != api.OK {
		return e
	}
	return r.put(h, api.Event{K: api.KBytes, S: string(b)})
}

// text reads a text behind its head. What is wrong with its first bytes goes
// ahead of others that are missing.
func (r *reader) text(h head) api.Errno {
	if e := r.bound(h, h.n, 1); e != api.OK {
		return e
	}
	length := int(h.n)
	s := string(r.b[r.at:min(r.at+length, len(r.b))])
	if place, e := utf.Within(s, length); e != api.OK {
		return r.refuse(r.at+place, e)
	}
	r.at += length
	return r.put(h, api.Event{K: api.KText, S: s})
}

// ext reads the type of a KExt and its bytes.
func (r *reader) ext(h head) api.Errno {
	if e := r.bound(h, h.n+1, 1); e != api.OK {
		return e
	}
	kind, e := r.take(1)
	if e != api.OK {
		return e
	}
	b, e := r.take(int(h.n))
	if e != api.OK {
		return e
	}
	return r.put(h, api.Event{K: api.KExt, N: uint64(kind[0]), S: string(b)})
}

// many reads the parts of a list or a map, of so many items each.
func (r *reader) many(h head, kind int, each int) api.Errno {
	if e := r.put(h, api.Event{K: kind}); e != api.OK {
		return e
	}
	if e := r.bound(h, h.n, each); e != api.OK {
		return e
	}
	for range int(h.n) * each {
		if e := r.item(); e != api.OK {
			return e
		}
	}
	return r.put(h, api.Event{K: api.KEnd})
}
