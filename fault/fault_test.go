package fault

import (
	"errors"
	"fmt"
	"math"
	"testing"

	"towncrier/api"
)

// kinds are the kinds in the order of their numbers, from 1 on, each with what an error of it says.
func kinds() ([]error, []string) {
	return []error{api.ErrShort, api.ErrMalformed, api.ErrProtocol, api.ErrTooLarge, api.ErrQuota, api.ErrState, api.ErrArgument, errors.New("x")},
		[]string{"too few bytes", "malformed", "against the protocol", "too large", "no room", "not now", "no such thing", "other"}
}

// told fails the test unless the calls tell this of an error.
func told(t *testing.T, name string, e error, reason, at int, number api.Errno) {
	t.Helper()
	if r, a, n := Reason(e), At(e), Number(e); r != reason || a != at || n != number {
		t.Errorf("%s: reason %d, at %d, number %d; want %d, %d, %d", name, r, a, n, reason, at, number)
	}
}

// Fa1: New keeps its values and wraps the kind itself.
func TestNew(t *testing.T) {
	ks, _ := kinds()
	for n, k := range ks {
		for _, v := range [][2]int{{0x82, 7}, {0, 0}, {-1, -9}, {math.MaxInt, math.MinInt}, {math.MinInt, math.MaxInt}} {
			e := New(v[0], v[1], k)
			f, ok := e.(*Fault)
			if !ok || f.Reason != v[0] || f.At != v[1] || f.Err != k || f.Unwrap() != k {
				t.Fatalf("New(%d, %d, %v) = %#v", v[0], v[1], k, e)
			}
			told(t, k.Error(), e, v[0], v[1], api.Errno(n+1))
		}
	}
	if e := New(1, 2, nil); e != nil {
		t.Errorf("New of no kind = %#v", e)
	}
}

// Fa1: what an error says, kind by kind.
func TestError(t *testing.T) {
	ks, texts := kinds()
	for n, k := range ks {
		if s := New(0x81, 12, k).Error(); s != texts[n]+", reason 129, at 12" {
			t.Errorf("%v says %q", k, s)
		}
	}
	for _, x := range []struct {
		e    error
		want string
	}{
		{New(-1, -20, api.ErrState), "not now, reason -1, at -20"},
		{New(math.MaxInt, math.MinInt, api.ErrQuota), "no room, reason 9223372036854775807, at -9223372036854775808"},
		{Deeper(New(0x95, 3, api.ErrTooLarge), 10), "too large, reason 149, at 13"},
		{Deeper(api.ErrShort, 4), "too few bytes, reason 128, at 4"},
		{New(1, 2, New(3, 4, api.ErrArgument)), "no such thing, reason 1, at 2"},
		{New(1, 2, errors.Join(api.ErrArgument, api.ErrProtocol)), "against the protocol, reason 1, at 2"},
	} {
		if s := x.e.Error(); s != x.want {
			t.Errorf("says %q, want %q", s, x.want)
		}
	}
}

// Fa1: a nil fault, and one that wraps nothing.
func TestNothingWrapped(t *testing.T) {
	for _, f := range []*Fault{nil, {}, {Reason: 0x81, At: 3}} {
		if s := f.Error(); s != "" {
			t.Errorf("%#v says %q", f, s)
		}
		if e := f.Unwrap(); e != nil {
			t.Errorf("%#v wraps %v", f, e)
		}
	}
	told(t, "one that wraps nothing", &Fault{Reason: 0x81, At: 3}, 0x81, 3, api.NoOther)
	told(t, "a nil fault", (*Fault)(nil), 0x80, 0, api.NoOther)
	told(t, "a nil fault in another error", fmt.Errorf("w: %w", error((*Fault)(nil))), 0x80, 0, api.NoOther)
}

// Fa1: the place is moved, and kept within its range.
func TestDeeperPlace(t *testing.T) {
	const big, half = 1 << 54, 1 << 53
	for _, x := range []struct{ at, by, want int }{
		{3, 10, 13}, {3, 0, 3}, {3, -3, 0}, {3, -4, 0}, {0, 0, 0}, {-5, 7, 2}, {-5, 5, 0}, {-5, 4, 0},
		{half, 0, half}, {half - 1, 1, half}, {half, 1, half}, {half + 1, -1, half}, {half + 1, -2, half - 1},
		{big, -half, half}, {big, -half - 1, half - 1}, {big + 5, -half - 1, half - 1}, {math.MaxInt, -half - 1, half - 1},
		{-half - 1, big, half - 1}, {-half - 1, big + 5, half - 1}, {-half - 1, math.MaxInt, half - 1},
		{-big, big, 0}, {-big - 7, big, 0}, {-big + 1, big, 1}, {-big - 7, big + 9, 0}, {big + 9, -big - 7, 0}, {1, -big - 7, 0},
		{big, -big + 1, 1}, {math.MinInt, math.MaxInt, 0}, {math.MaxInt, math.MinInt, 0},
		{math.MaxInt, math.MaxInt, half}, {math.MinInt, math.MinInt, 0}, {math.MaxInt, 1, half}, {1, math.MaxInt, half},
	} {
		if at := At(Deeper(New(0x81, x.at, api.ErrShort), x.by)); at != x.want {
			t.Errorf("%d, deeper by %d: at %d, want %d", x.at, x.by, at, x.want)
		}
	}
}

// Fa1: Deeper wraps the error that it is given, and leaves that one as it was.
func TestDeeperWraps(t *testing.T) {
	if e := Deeper(nil, 3); e != nil {
		t.Errorf("Deeper of nil = %#v", e)
	}
	for _, e := range []error{New(0x82, 7, api.ErrProtocol), api.ErrProtocol, fmt.Errorf("w: %w", New(5, 6, api.ErrQuota)), errors.New("x")} {
		reason, at, number := Reason(e), At(e), Number(e)
		d := Deeper(e, 10)
		if f, ok := d.(*Fault); !ok || f.Unwrap() != e {
			t.Fatalf("Deeper(%v) = %#v", e, d)
		}
		told(t, "deeper", d, reason, at+10, number)
		told(t, "as it was", e, reason, at, number)
	}
}

// Fa2: errors that are no faults, and nil.
func TestPlain(t *testing.T) {
	told(t, "nil", nil, 0, 0, api.OK)
	ks, _ := kinds()
	for n, k := range ks {
		told(t, k.Error(), k, 0x80, 0, api.Errno(n+1))
		told(t, "wrapped", fmt.Errorf("w: %w", k), 0x80, 0, api.Errno(n+1))
	}
	told(t, "the same text", errors.New("malformed"), 0x80, 0, api.NoOther)
}

// Fa2: the first fault counts, wherever it is.
func TestFirst(t *testing.T) {
	in := New(0x82, 7, api.ErrProtocol)
	told(t, "wrapped", fmt.Errorf("v: %w", fmt.Errorf("w: %w", in)), 0x82, 7, api.NoProtocol)
	told(t, "outer", New(0x95, 1, fmt.Errorf("w: %w", in)), 0x95, 1, api.NoProtocol)
	told(t, "joined", errors.Join(errors.New("x"), in, New(1, 2, api.ErrState)), 0x82, 7, api.NoProtocol)
	told(t, "joined, the other way round", errors.Join(New(1, 2, api.ErrState), in), 1, 2, api.NoProtocol)
	told(t, "zero", New(0, 0, api.ErrState), 0, 0, api.NoState)
}

// Fa2: of several kinds the least number counts, in whichever order they are wrapped.
func TestLeastKind(t *testing.T) {
	ks, _ := kinds()
	for i, a := range ks {
		for j, b := range ks {
			if n := Number(errors.Join(a, b)); n != api.Errno(min(i, j)+1) {
				t.Errorf("%v with %v: %d", a, b, n)
			}
		}
	}
}

// says is an error that calls itself one of a kind, and a fault, without wrapping any.
type says struct{}

func (says) Error() string        { return "says" }
func (says) Is(target error) bool { return target == api.ErrQuota }
func (says) As(target any) bool {
	f, ok := target.(**Fault)
	if ok {
		*f = &Fault{Reason: 9, At: 4}
	}
	return ok
}

// Fa2: errors.Is and errors.As decide, also by an error's own methods.
func TestOwnMethods(t *testing.T) {
	told(t, "says", says{}, 9, 4, api.NoQuota)
	told(t, "wrapped", fmt.Errorf("w: %w", says{}), 9, 4, api.NoQuota)
}

// Fa3: an error that is passed on often keeps its reason and its kind, and its place is moved each time.
func TestPassedOn(t *testing.T) {
	ks, _ := kinds()
	for n, k := range ks {
		e, at := New(0x90+n, n, k), n
		for i := range 2000 {
			e, at = Deeper(e, i%7), at+i%7
			if i%50 == 0 {
				e = fmt.Errorf("%w", e)
			}
			if i%100 == 0 {
				told(t, k.Error(), e, 0x90+n, at, api.Errno(n+1))
			}
		}
		told(t, k.Error(), e, 0x90+n, at, api.Errno(n+1))
		if !errors.Is(e, k) {
			t.Errorf("%v is lost", k)
		}
	}
}

// Fa3: no number of times is too great.
func TestPassedOnVeryOften(t *testing.T) {
	e := New(0x97, 5, api.ErrQuota)
	for range most + 10 {
		e = Deeper(e, 1)
	}
	told(t, "deep", e, 0x97, most+15, api.NoQuota)
}
