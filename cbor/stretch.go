package cbor

import (
	"glossator/api"
	"glossator/utf"
	"glossator/value"
)

// stretch reads bytes or a text behind their head.
func (r *reader) stretch(s start) string {
	if s.info != openInfo {
		return r.piece(s)
	}
	var out []byte
	for !r.ends() {
		r.pieceBegins(s.major)
		out = append(out, r.piece(r.start())...)
	}
	return string(out)
}

// pieceBegins refuses a byte that begins no piece of the major, even if what it
// begins is no whole head.
func (r *reader) pieceBegins(major int) {
	if r.at == len(r.b) {
		return
	}
	low := major << majorBits
	if first := int(r.b[r.at]); first < low || first >= low+openInfo {
		r.refuse(r.at, api.ErrForm)
	}
}

// piece reads bytes or a text of a length.
func (r *reader) piece(s start) string {
	r.bound(s, 1)
	length := int(s.n)
	out := string(r.b[r.at:min(r.at+length, len(r.b))])
	if s.major == majorText {
		if place, e := utf.Within(out, length); e != api.OK {
			r.refuse(r.at+place, e)
		}
	}
	r.at += len(out)
	if len(out) < length {
		r.refuse(r.at, api.ErrShort)
	}
	return out
}

// big reads the bytes of a KBig, if just these stand there. What is wrong with
// what stands there is not told here, as the tag ahead of it goes first.
func (r *reader) big() (string, bool) {
	ahead, b := *r, ""
	_, e := caught(func() {
		if s := ahead.start(); s.major == majorBytes {
			b = ahead.stretch(s)
		}
	})
	if e != api.OK || value.Check(api.Value{K: api.KBig, S: b}) != api.OK {
		return "", false
	}
	r.at = ahead.at
	return b, true
}
