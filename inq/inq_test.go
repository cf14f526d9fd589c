package inq_test

import (
	"math"
	"math/rand"
	"testing"

	"towncrier/api"
	"towncrier/inq"
)

// take fails the test unless this becomes of a number, and so many are there then.
func take(t *testing.T, i *inq.In, id, qos, want, many int) {
	t.Helper()
	if got := i.Take(id, qos); got != want || i.Len() != many {
		t.Errorf("Take(%d, %d) = %d, and %d are there; want %d, %d", id, qos, got, i.Len(), want, many)
	}
}

// done fails the test unless Done reports this, and so many are there then.
func done(t *testing.T, i *inq.In, id int, want bool, many int) {
	t.Helper()
	if got := i.Done(id); got != want || i.Len() != many {
		t.Errorf("Done(%d) = %v, and %d are there; want %v, %d", id, got, i.Len(), want, many)
	}
}

// release fails the test unless Release reports this, and so many are there then.
func release(t *testing.T, i *inq.In, id int, want bool, many int) {
	t.Helper()
	if got := i.Release(id); got != want || i.Len() != many {
		t.Errorf("Release(%d) = %v, and %d are there; want %v, %d", id, got, i.Len(), want, many)
	}
}

// Iq1: numbers that are new, that came again, and that are in use; the chapter's example is 7 twice, with QoS 2.
func TestTake(t *testing.T) {
	i := inq.New(9)
	take(t, i, 7, 2, api.InNew, 1)
	take(t, i, 7, 2, api.InAgain, 1)
	take(t, i, 7, 1, api.InWrong, 1)
	take(t, i, 7, 2, api.InAgain, 1)
	take(t, i, 8, 1, api.InNew, 2)
	take(t, i, 8, 1, api.InWrong, 2)
	take(t, i, 8, 2, api.InWrong, 2)
	for n, id := range []int{0, -1, 65535, 65536, math.MinInt, math.MaxInt} {
		take(t, i, id, 1+n%2, api.InNew, 3+n)
	}
}

// Iq1: a QoS that is neither 1 nor 2 is wrong, whether the number is there or not, and whether there is room or not.
func TestTakeWrong(t *testing.T) {
	i := inq.New(1)
	for range 2 {
		before := i.Len()
		for _, qos := range []int{0, 3, -1, math.MinInt, math.MaxInt} {
			for id := range 3 {
				take(t, i, id, qos, api.InWrong, before)
			}
		}
		i.Take(1, 2)
	}
}

// Iq1: no more than there is room for; numbers that are there are told so even then.
func TestTakeFull(t *testing.T) {
	i := inq.New(2)
	take(t, i, 1, 1, api.InNew, 1)
	take(t, i, 2, 2, api.InNew, 2)
	take(t, i, 3, 1, api.InFull, 2)
	take(t, i, 3, 2, api.InFull, 2)
	take(t, i, 1, 1, api.InWrong, 2)
	take(t, i, 2, 2, api.InAgain, 2)
	done(t, i, 3, false, 2)
	done(t, i, 1, true, 1)
	take(t, i, 3, 2, api.InNew, 2)
	take(t, i, 1, 2, api.InFull, 2)
}

// Iq1: Done removes any, and Release only those with QoS 2.
func TestDoneAndRelease(t *testing.T) {
	i := inq.New(9)
	take(t, i, 1, 1, api.InNew, 1)
	take(t, i, 2, 2, api.InNew, 2)
	take(t, i, 3, 2, api.InNew, 3)
	release(t, i, 4, false, 3)
	release(t, i, 1, false, 3)
	release(t, i, 2, true, 2)
	release(t, i, 2, false, 2)
	done(t, i, 2, false, 2)
	done(t, i, 4, false, 2)
	done(t, i, 1, true, 1)
	done(t, i, 1, false, 1)
	done(t, i, 3, true, 0)
	release(t, i, 3, false, 0)
	release(t, i, 0, false, 0)
	take(t, i, 2, 1, api.InNew, 1)
	take(t, i, 1, 2, api.InNew, 2)
}

// Iq1: without room, a zero object, and none at all.
func TestNothing(t *testing.T) {
	for _, i := range []*inq.In{inq.New(0), inq.New(-1), inq.New(math.MinInt), {}, nil} {
		take(t, i, 1, 1, api.InFull, 0)
		take(t, i, 1, 2, api.InFull, 0)
		take(t, i, 1, 0, api.InWrong, 0)
		take(t, i, 1, 3, api.InWrong, 0)
		for id := range 2 {
			done(t, i, id, false, 0)
			release(t, i, id, false, 0)
		}
	}
}

// Iq2: a message of QoS 2 is new once, until it is released or done; there are never more than there is room for.
func TestAgainstList(t *testing.T) {
	rnd := rand.New(rand.NewSource(25))
	for range 300 {
		most := rnd.Intn(5)
		i := inq.New(most)
		known := map[int]int{}
		for range 80 {
			id, qos := rnd.Intn(6), 1+rnd.Intn(2)
			before, is := known[id]
			switch rnd.Intn(4) {
			case 0:
				delete(known, id)
				done(t, i, id, is, len(known))
			case 1:
				if before == 2 {
					delete(known, id)
				}
				release(t, i, id, before == 2, len(known))
			default:
				want := api.InNew
				switch {
				case before == 2 && qos == 2:
					want = api.InAgain
				case is:
					want = api.InWrong
				case len(known) == most:
					want = api.InFull
				default:
					known[id] = qos
				}
				take(t, i, id, qos, want, len(known))
			}
			if t.Failed() {
				return
			}
		}
	}
}
