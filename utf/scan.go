package utf

import (
	"glossator/api"
)

// States of a scan. One that no call made is in the first.
const (
	unmade = iota
	open
	ended // closed, or behind an error
)

// Scan is a text that comes piece by piece.
type Scan struct {
	state int
	at    int
	due   tail
}

// New tells a scan at 0.
func New() *Scan {
	return &Scan{state: open}
}

// Feed goes on by the bytes b.
func (s *Scan) Feed(b []byte) api.Errno {
	if e := s.refusal(); e != api.OK {
		return e
	}
	taken := takeAll(&s.due, b)
	s.at += taken
	if taken < len(b) {
		s.state = ended
		return api.ErrForm
	}
	return api.OK
}

// Close tells that no more bytes come.
func (s *Scan) Close() api.Errno {
	if e := s.refusal(); e != api.OK {
		return e
	}
	s.state = ended
	if s.due.count > 0 {
		return api.ErrShort
	}
	return api.OK
}

// At tells how many bytes came, or the place of the error.
func (s *Scan) At() int {
	if s == nil {
		return 0
	}
	return s.at
}

// refusal tells why a call can't go on, whatever it is given.
func (s *Scan) refusal() api.Errno {
	switch {
	case s == nil || s.state == unmade:
		return api.ErrZero
	case s.state == ended:
		return api.ErrState
	}
	return api.OK
}
