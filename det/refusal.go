package det

import "strconv"

// refusal is why there is no plain tree of the value at a place within another.
type refusal struct {
	place int
	why   error
}

func (r refusal) Error() string {
	return r.why.Error() + " within " + strconv.Itoa(r.place)
}

func (r refusal) Unwrap() error {
	return r.why
}
