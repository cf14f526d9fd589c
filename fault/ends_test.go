package fault

import (
	"errors"
	"testing"

	"towncrier/api"
)

// again is an error that wraps itself.
type again struct{ n int }

func (a *again) Error() string { return "again" }
func (a *again) Unwrap() error { return a }

// anew is an error that wraps another one like itself whenever it is asked.
type anew struct{ n int }

func (a anew) Error() string { return "anew" }
func (a anew) Unwrap() error { return anew{a.n + 1} }

// several is an error that wraps what it contains; two of them can't be compared.
type several []error

func (s several) Error() string   { return "several" }
func (s several) Unwrap() []error { return s }

// wild is an error whose methods panic.
type wild struct{}

func (wild) Error() string { panic("wild") }
func (wild) Unwrap() error { panic("wild") }

// wilder panics when it is compared.
type wilder struct{}

func (wilder) Error() string { panic("wilder") }
func (wilder) Is(error) bool { panic("wilder") }
func (wilder) As(any) bool   { panic("wilder") }

// R1: a fault that wraps itself keeps its own reason and place, and is of no kind.
func TestFaultsInACircle(t *testing.T) {
	for length := 1; length < 20; length++ {
		ring := make([]Fault, length)
		for i := range ring {
			ring[i] = Fault{Reason: 0x81, At: i, Err: &ring[(i+1)%length]}
		}
		told(t, "a ring", &ring[0], 0x81, 0, api.NoOther)
		var e error = &ring[length-1]
		for range 9 {
			e = Deeper(e, 1)
		}
		told(t, "a ring at an end", e, 0x81, length+8, api.NoOther)
		if s := e.Error(); len(s) < 5 || s[:5] != "other" {
			t.Errorf("says %q", s)
		}
	}
}

// R1: circles through other errors, too.
func TestOtherCircles(t *testing.T) {
	f := &Fault{Reason: 0x82, At: 4}
	f.Err = errors.Join(errors.New("x"), f)
	told(t, "a fault in its own list", f, 0x82, 4, api.NoOther)
	told(t, "in another one", errors.Join(errors.New("y"), f), 0x82, 4, api.NoOther)
	told(t, "again", &again{}, 0x80, 0, api.NoOther)
	told(t, "anew", anew{}, 0x80, 0, api.NoOther)
	told(t, "a fault of it", New(3, 4, &again{}), 3, 4, api.NoOther)
	s := several{errors.New("x"), nil}
	s[1] = s
	told(t, "a list in itself", s, 0x80, 0, api.NoOther)
	told(t, "deeper", Deeper(s, 7), 0x80, 7, api.NoOther)
}

// R1: errors that are wrapped twice, or that can't be compared, are no circle.
func TestNoCircle(t *testing.T) {
	f := New(0x82, 4, several{api.ErrState, nil, api.ErrState})
	told(t, "twice", errors.Join(f, f), 0x82, 4, api.NoState)
	told(t, "lists", several{several{}, several{several{f}}, f}, 0x82, 4, api.NoState)
}

// R1: what panics is caught, and counts as an error without a fault and a kind.
func TestWild(t *testing.T) {
	for _, e := range []error{wild{}, wilder{}, several{errors.New("x"), wild{}}, (*nothing)(nil)} {
		told(t, "plain", e, 0x80, 0, api.NoOther)
		told(t, "deeper", Deeper(e, 5), 0x80, 5, api.NoOther)
		if s := New(1, 2, e).Error(); s != "other, reason 1, at 2" {
			t.Errorf("says %q", s)
		}
	}
}

// nothing is an error that panics only where it is nil.
type nothing struct{ in error }

func (n *nothing) Error() string { return n.in.Error() }
func (n *nothing) Unwrap() error { return n.in }
