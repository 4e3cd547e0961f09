package token

import (
	"iter"

	"glossator/api"
)

// A fault is where and how a text errs; its e is OK, if it does not.
type fault struct {
	at int
	e  api.Errno
}

// all goes over the tokens of s up to the end, which is none of them. What errs
// first comes last, with no token.
func all(s string) iter.Seq2[Token, fault] {
	return func(yield func(Token, fault) bool) {
		for at := 0; ; {
			t, place, e := Next(s, at)
			if e == api.OK && t.Kind == kindEnd {
				return
			}
			if !yield(t, fault{at: place, e: e}) || e != api.OK {
				return
			}
			at = place
		}
	}
}
