// Package fault is layer 1: errors with a reason code and a place (shared/doc/01-fault.md).
package fault

import (
	"errors"
	"strconv"

	"towncrier/api"
)

// widest bounds a place and what moves it, so that their sum stays far from where whole numbers wrap round.
const widest = 1 << 54

// farthest is the greatest place that a move leads to.
const farthest = 1 << 53

// unknown is the reason code of an error that states none.
const unknown = api.Unspecified

// Fault is an error with a reason code, and the place at which it was found; it wraps another one.
type Fault struct {
	Reason int
	At     int
	Err    error
}

// Error is what the error says.
func (f *Fault) Error() string {
	if f == nil || f.Err == nil {
		return ""
	}
	return text(Number(f)) + ", reason " + strconv.Itoa(f.Reason) + ", at " + strconv.Itoa(f.At)
}

// Unwrap is what it wraps.
func (f *Fault) Unwrap() error {
	if f == nil {
		return nil
	}
	return f.Err
}

// New is a fault of a kind.
func New(reason, at int, kind error) error {
	if kind == nil {
		return nil
	}
	return &Fault{Reason: reason, At: at, Err: kind}
}

// Deeper is an error found in a part, told of the whole: its place is so much further.
func Deeper(e error, by int) error {
	if e == nil {
		return nil
	}
	at := limit(At(e)) + limit(by)
	return &Fault{Reason: Reason(e), At: min(max(at, 0), farthest), Err: e}
}

// Reason is an error's reason code.
func Reason(e error) int {
	if e == nil {
		return 0
	}
	if f := first(e); f != nil {
		return f.Reason
	}
	return unknown
}

// At is the place at which it was found.
func At(e error) int {
	if f := first(e); f != nil {
		return f.At
	}
	return 0
}

// Number is the number of its kind.
func Number(e error) (n api.Errno) {
	if e == nil {
		return api.OK
	}
	// An error from elsewhere has methods of its own, which may panic.
	defer func() {
		if recover() != nil {
			n = api.NoOther
		}
	}()
	if !ends(e, 0, false) {
		return api.NoOther
	}
	switch {
	case errors.Is(e, api.ErrShort):
		return api.NoShort
	case errors.Is(e, api.ErrMalformed):
		return api.NoMalformed
	case errors.Is(e, api.ErrProtocol):
		return api.NoProtocol
	case errors.Is(e, api.ErrTooLarge):
		return api.NoTooLarge
	case errors.Is(e, api.ErrQuota):
		return api.NoQuota
	case errors.Is(e, api.ErrState):
		return api.NoState
	case errors.Is(e, api.ErrArgument):
		return api.NoArgument
	}
	return api.NoOther
}

// text is what a kind says.
func text(n api.Errno) string {
	switch n {
	case api.NoShort:
		return "too few bytes"
	case api.NoMalformed:
		return "malformed"
	case api.NoProtocol:
		return "against the protocol"
	case api.NoTooLarge:
		return "too large"
	case api.NoQuota:
		return "no room"
	case api.NoState:
		return "not now"
	case api.NoArgument:
		return "no such thing"
	}
	return "other"
}

// limit brings a number into the range within which places are added.
func limit(n int) int {
	return min(max(n, -widest), widest)
}

// first is the first fault of an error, nil if it has none.
func first(e error) (f *Fault) {
	defer func() {
		if recover() != nil {
			f = nil
		}
	}()
	if ends(e, 0, true) && errors.As(e, &f) {
		return f
	}
	return nil
}
