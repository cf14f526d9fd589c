package pids_test

import (
	"math"
	"math/rand"
	"testing"

	"towncrier/pids"
)

// next fails the test unless the next number is this one, 0 for none.
func next(t *testing.T, p *pids.Pids, want int) {
	t.Helper()
	if id, ok := p.Next(); id != want || ok != (want > 0) {
		t.Errorf("Next() = %d, %v; want %d", id, ok, want)
	}
}

// says fails the test unless a call reports what it should.
func says(t *testing.T, name string, id int, got, want bool) {
	t.Helper()
	if got != want {
		t.Errorf("%s(%d) = %v", name, id, got)
	}
}

// used fails the test unless of the numbers up to most just these are in use.
func used(t *testing.T, p *pids.Pids, most int, ids ...int) {
	t.Helper()
	if n := p.Len(); n != len(ids) {
		t.Errorf("Len() = %d, want %d", n, len(ids))
	}
	in := map[int]bool{}
	for _, id := range ids {
		in[id] = true
	}
	for id := -2; id < most+3; id++ {
		says(t, "Is", id, p.Is(id), in[id])
	}
}

// Pd1: Next goes round, past those that are in use; the chapter's example frees 1 behind 2.
func TestNext(t *testing.T) {
	p := pids.New(3)
	used(t, p, 3)
	next(t, p, 1)
	next(t, p, 2)
	says(t, "Free", 1, p.Free(1), true)
	next(t, p, 3)
	used(t, p, 3, 2, 3)
	next(t, p, 1)
	next(t, p, 0)
	used(t, p, 3, 1, 2, 3)
	says(t, "Free", 1, p.Free(1), true)
	next(t, p, 1)
	says(t, "Free", 3, p.Free(3), true)
	says(t, "Free", 1, p.Free(1), true)
	next(t, p, 3)
	next(t, p, 1)
	next(t, p, 0)
	used(t, p, 3, 1, 2, 3)
}

// Pd1: Use and Free, and what Next does then: it goes on behind the number that it returned last, not behind one that was used.
func TestUse(t *testing.T) {
	p := pids.New(5)
	says(t, "Use", 3, p.Use(3), true)
	says(t, "Use", 3, p.Use(3), false)
	says(t, "Use", 1, p.Use(1), true)
	used(t, p, 5, 1, 3)
	next(t, p, 2)
	next(t, p, 4)
	says(t, "Free", 3, p.Free(3), true)
	says(t, "Free", 3, p.Free(3), false)
	says(t, "Free", 5, p.Free(5), false)
	used(t, p, 5, 1, 2, 4)
	says(t, "Use", 5, p.Use(5), true)
	next(t, p, 3)
	next(t, p, 0)
	says(t, "Free", 4, p.Free(4), true)
	says(t, "Free", 2, p.Free(2), true)
	next(t, p, 4)
	next(t, p, 2)
}

// Pd1: what is not one of the numbers is never in use.
func TestOutside(t *testing.T) {
	p := pids.New(4)
	for _, id := range []int{0, -1, 5, 6, 65536, math.MinInt, math.MaxInt} {
		says(t, "Use", id, p.Use(id), false)
		says(t, "Is", id, p.Is(id), false)
		says(t, "Free", id, p.Free(id), false)
	}
	used(t, p, 4)
	next(t, p, 1)
}

// Pd1: without numbers, a zero object, and none at all.
func TestNoNumbers(t *testing.T) {
	for _, p := range []*pids.Pids{pids.New(0), pids.New(-1), pids.New(math.MinInt), {}, nil} {
		next(t, p, 0)
		for id := range 3 {
			says(t, "Use", id, p.Use(id), false)
			says(t, "Free", id, p.Free(id), false)
		}
		used(t, p, 3)
		next(t, p, 0)
	}
}

// Pd1: there are at most 65535 numbers.
func TestGreatest(t *testing.T) {
	for _, most := range []int{65534, 65535, 65536, 1 << 20, math.MaxInt} {
		p := pids.New(most)
		all := min(most, 65535)
		for id := 1; id <= all; id++ {
			if got, ok := p.Next(); got != id || !ok {
				t.Fatalf("Next() = %d, %v; want %d", got, ok, id)
			}
		}
		next(t, p, 0)
		says(t, "Use", all+1, p.Use(all+1), false)
		says(t, "Free", 5, p.Free(5), true)
		next(t, p, 5)
		next(t, p, 0)
		if p.Len() != all {
			t.Errorf("Len() = %d", p.Len())
		}
	}
}

// Pd2: no number is returned that is in use; the one that follows the last is looked at first, and that one itself last.
func TestAgainstList(t *testing.T) {
	rnd := rand.New(rand.NewSource(23))
	for range 300 {
		most := 1 + rnd.Intn(8)
		p := pids.New(most)
		in := map[int]bool{}
		last := 0
		for range 100 {
			id := rnd.Intn(most + 2)
			switch rnd.Intn(4) {
			case 0:
				says(t, "Use", id, p.Use(id), id >= 1 && id <= most && !in[id])
				if id >= 1 && id <= most {
					in[id] = true
				}
			case 1:
				says(t, "Free", id, p.Free(id), in[id])
				delete(in, id)
			default:
				want := 0
				for i := 1; i <= most && want == 0; i++ {
					id := last + i
					if id > most {
						id -= most
					}
					if !in[id] {
						want = id
					}
				}
				next(t, p, want)
				if want > 0 {
					in[want], last = true, want
				}
			}
			var ids []int
			for id := range in {
				ids = append(ids, id)
			}
			used(t, p, most, ids...)
			if t.Failed() {
				return
			}
		}
	}
}

// Pd2: a number that is freed right away comes last, when all others had their turn.
func TestFreedComesLast(t *testing.T) {
	p := pids.New(5)
	for range 3 {
		for id := 1; id <= 5; id++ {
			next(t, p, id)
			says(t, "Free", id, p.Free(id), true)
		}
		used(t, p, 5)
	}
}
