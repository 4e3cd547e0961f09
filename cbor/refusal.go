package cbor

import (
	"errors"
	"strconv"

	"glossator/api"
)

// refusal is why a work can't go on; of bytes that are read, it has the place
// too.
type refusal struct {
	place int
	why   api.Errno
}

func (r refusal) Error() string {
	return r.why.Error() + " at place " + strconv.Itoa(r.place)
}

// caught does a work, and tells where and why it was refused, or OK.
func caught(work func()) (place int, why api.Errno) {
	defer func() {
		if err, ok := recover().(error); ok {
			place, why = told(err)
		}
	}()
	work()
	return 0, api.OK
}

// told tells what is in a refusal. Other panics are faults of the program, which
// are not to look like faults of the bytes.
func told(err error) (int, api.Errno) {
	var r refusal
	if !errors.As(err, &r) {
		panic(err)
	}
	return r.place, r.why
}
