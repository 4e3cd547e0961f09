package json

import (
	"errors"
	"strconv"

	"glossator/api"
)

// refusal is where a text errs, around how it does.
type refusal struct {
	place int
	why   error
}

func (r refusal) Error() string {
	return r.why.Error() + " at place " + strconv.Itoa(r.place)
}

func (r refusal) Unwrap() error {
	return r.why
}

// refuse wraps e with its place, if it is one.
func refuse(place int, e api.Errno) error {
	if e == api.OK {
		return nil
	}
	return refusal{place, e}
}

// told tells what refuse has wrapped.
func told(err error) (int, api.Errno) {
	var where refusal
	var how api.Errno
	errors.As(err, &where)
	errors.As(err, &how)
	return where.place, how
}
