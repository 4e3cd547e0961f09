package cbor

import (
	"glossator/api"
	"glossator/event"
	"glossator/head"
)

// reader goes over bytes, and leaves by a refusal at the first that can't be.
type reader struct {
	b      []byte // those that may be looked at
	at     int    // the place of the next one
	size   int    // how many may be looked at
	isMore bool   // are there others behind b?
	build  *event.Build
}

// start is a head that was read.
type start struct {
	place, major, info int
	n                  uint64
}

func newReader(b []byte, l api.Limits) *reader {
	return &reader{
		b:      b[:min(len(b), l.Size)],
		size:   l.Size,
		isMore: len(b) > l.Size,
		build:  event.New(l.Depth),
	}
}

// refuse leaves. Where the bytes are too few, it is the limit if just that
// keeps from looking at more of them.
func (r *reader) refuse(place int, why api.Errno) {
	if why == api.ErrShort && r.isMore {
		why = api.ErrLimit
	}
	panic(refusal{place, why})
}

// whole reads an item behind which there is nothing.
func (r *reader) whole() {
	r.item()
	switch {
	case r.at < len(r.b):
		r.refuse(r.at, api.ErrForm)
	case r.isMore:
		r.refuse(r.at, api.ErrLimit)
	}
}

// item reads an item, which the build takes.
func (r *reader) item() {
	s := r.start()
	number := api.Event{K: api.KInt, N: s.n}
	switch s.major {
	case majorBelow:
		number.Neg = true
		fallthrough
	case majorWhole:
		r.put(s, number)
	case majorBytes:
		r.put(s, api.Event{K: api.KBytes, S: r.stretch(s)})
	case majorText:
		r.put(s, api.Event{K: api.KText, S: r.stretch(s)})
	case majorList:
		r.many(s, api.KList, 1)
	case majorMap:
		r.many(s, api.KMap, 2)
	case majorTag:
		r.tag(s)
	case majorOther:
		r.other(s)
	}
}

// start reads a head.
func (r *reader) start() start {
	major, info, n, length, e := head.Get(r.b[r.at:])
	if e != api.OK {
		r.refuse(r.at+length, e)
	}
	s := start{r.at, major, info, n}
	r.at += length
	return s
}

// put hands the build an event of the item that s begins.
func (r *reader) put(s start, event api.Event) {
	if e := r.build.Put(event); e != api.OK {
		r.refuse(s.place, e)
	}
}

// bound refuses an item of so many parts, of each at least so many bytes, that
// it would end too far behind.
func (r *reader) bound(s start, each int) {
	if s.n > uint64((r.size-r.at)/each) {
		r.refuse(s.place, api.ErrLimit)
	}
}

// ends reads the byte that ends what is open, if it stands there.
func (r *reader) ends() bool {
	is := r.at < len(r.b) && r.b[r.at] == end
	if is {
		r.at++
	}
	return is
}

// many reads the parts of a list or a map, of so many items each.
func (r *reader) many(s start, kind int, each int) {
	r.put(s, api.Event{K: kind})
	if s.info == openInfo {
		for !r.ends() {
			r.items(each)
		}
	} else {
		r.bound(s, each)
		r.items(int(s.n) * each)
	}
	r.put(s, api.Event{K: api.KEnd})
}

func (r *reader) items(count int) {
	for range count {
		r.item()
	}
}

// tag reads a tag and its value, or the KBig that both are.
func (r *reader) tag(s start) {
	switch s.n {
	case bigTag, belowTag:
		if b, ok := r.big(); ok {
			r.put(s, api.Event{K: api.KBig, Neg: s.n == belowTag, S: b})
			return
		}
		fallthrough
	default:
		r.put(s, api.Event{K: api.KTag, N: s.n})
		r.item()
	}
}

// other reads what is whole with its head.
func (r *reader) other(s start) {
	event := api.Event{K: api.KSimple, N: s.n}
	switch s.info {
	case openInfo:
		r.refuse(s.place, api.ErrForm)
	case falseInfo, trueInfo:
		event = api.Event{K: api.KBool, N: s.n - falseInfo}
	case nullInfo:
		event = api.Event{K: api.KNull}
	case undefInfo:
		event = api.Event{K: api.KUndef}
	case f16Info:
		event.K = api.KF16
	case f32Info:
		event.K = api.KF32
	case f64Info:
		event.K = api.KF64
	}
	r.put(s, event)
}
