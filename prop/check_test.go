package prop_test

import (
	"fmt"
	"math"
	"slices"
	"testing"

	"towncrier/api"
	"towncrier/prop"
)

// What the faults of a check say, each with a place behind it.
const (
	tooMany   = "too large, reason 149, at "
	malformed = "malformed, reason 129, at "
	protocol  = "against the protocol, reason 130, at "
)

// checked fails the test unless the check says so.
func checked(t *testing.T, place int, l []api.Prop, want string) {
	t.Helper()
	if err := prop.Check(place, l); told(err) != want {
		t.Errorf("Check(%d, %v) = %q, want %q", place, l, told(err), want)
	}
}

// Pr1: types and places, for all identifiers.
func TestTable(t *testing.T) {
	m := table()
	l := []int{-1, -2, -38, math.MinInt, 300, 256 + 38, 1<<32 + 38, math.MaxInt}
	for id := range 300 {
		l = append(l, id)
	}
	for _, id := range l {
		if prop.Type(id) != m[id].has {
			t.Errorf("Type(%d) = %d, want %d", id, prop.Type(id), m[id].has)
		}
		for place := -3; place < 130; place++ {
			if want := slices.Contains(m[id].places, place); prop.Allowed(id, place) != want {
				t.Errorf("Allowed(%d, %d) is not %v", id, place, want)
			}
		}
		for _, place := range []int{math.MinInt, 1<<32 + 3, math.MaxInt} {
			if prop.Allowed(id, place) {
				t.Errorf("Allowed(%d, %d)", id, place)
			}
		}
	}
}

// Pr1: which places take which properties.
func TestCheckPlaces(t *testing.T) {
	m := table()
	for place := -1; place <= 18; place++ {
		checked(t, place, nil, "")
		checked(t, place, []api.Prop{}, "")
		for id := -1; id < 300; id++ {
			want := ""
			if !slices.Contains(m[id].places, place) {
				want = malformed + "0"
			}
			checked(t, place, []api.Prop{{Id: id, N: 1}}, want)
		}
	}
}

// Pr1: which numbers are allowed; of the others the number does not matter.
func TestCheckNumbers(t *testing.T) {
	m := table()
	for _, id := range ids() {
		for _, n := range []int{math.MinInt, -1, 0, 1, 2, 3, 255, 256, 65535, 65536, 1<<32 - 1, 1 << 32, math.MaxInt} {
			want := ""
			if m[id].one && n != 0 && n != 1 || m[id].some && n <= 0 {
				want = protocol + "0"
			}
			checked(t, m[id].places[0], []api.Prop{{Id: id, N: n}}, want)
		}
	}
}

// Pr1: which properties may occur several times; the chapter's example is 38.
func TestCheckTwice(t *testing.T) {
	for id, x := range table() {
		for _, place := range x.places {
			want := protocol + "1"
			if id == 38 || id == 11 && place == 3 {
				want = ""
			}
			p := example(id)
			checked(t, place, []api.Prop{p, p}, want)
		}
	}
	checked(t, 8, []api.Prop{{Id: 11, N: 1}, {Id: 38}, {Id: 38}, {Id: 11, N: 2}}, protocol+"3")
	checked(t, 3, []api.Prop{{Id: 38}, {Id: 11, N: 1}, {Id: 38}, {Id: 11, N: 2}, {Id: 11, N: 1}}, "")
	checked(t, 3, []api.Prop{{Id: 3, S: "a"}, {Id: 8, S: "a"}, {Id: 3, S: "b"}}, protocol+"2")
	checked(t, 1, []api.Prop{{Id: 17}, {Id: 33, N: 1}, {Id: 38}, {Id: 33, N: 2}}, protocol+"3")
}

// Pr1: 64 properties, and no more.
func TestCheckMany(t *testing.T) {
	for _, n := range []int{1, 63, 64} {
		checked(t, 3, many(n), "")
		checked(t, 16, many(n), "")
	}
	for _, n := range []int{65, 66, 200} {
		checked(t, 3, many(n), tooMany+"64")
		checked(t, 15, many(n), tooMany+"64")
	}
	// At the 65th, that it is the 65th precedes all else.
	checked(t, 3, append(many(64), api.Prop{Id: 999}), tooMany+"64")
	checked(t, 3, append(many(64), api.Prop{Id: 35}), tooMany+"64")
	checked(t, 3, append(append([]api.Prop{{Id: 35, N: 1}}, many(63)...), api.Prop{Id: 35, N: 1}), tooMany+"64")
	// At an earlier one, it does not.
	checked(t, 3, append(many(63), api.Prop{Id: 999}, api.Prop{Id: 38}), malformed+"63")
}

// Pr1: the first error, property by property, and in its order at each.
func TestCheckOrder(t *testing.T) {
	good, gone, zero := api.Prop{Id: 33, N: 1}, api.Prop{Id: 5}, api.Prop{Id: 39}
	checked(t, 1, []api.Prop{good, gone, zero}, malformed+"1")
	checked(t, 1, []api.Prop{good, zero, gone}, protocol+"1")
	checked(t, 1, []api.Prop{zero, gone, good}, protocol+"0")
	checked(t, 1, []api.Prop{good, good, gone}, protocol+"1")
	checked(t, 1, []api.Prop{good, {Id: 38}, {Id: 35}, good}, malformed+"2")
	checked(t, 1, []api.Prop{gone, gone}, malformed+"0")
	for i := range 64 {
		l := many(64)
		l[i] = api.Prop{Id: 4}
		checked(t, 3, l, malformed+fmt.Sprint(i))
		l[i] = api.Prop{Id: 35}
		checked(t, 3, l, protocol+fmt.Sprint(i))
	}
}

// Pr2: the first one with an identifier, and its number.
func TestGet(t *testing.T) {
	l := []api.Prop{{Id: 38, S: "a", V: "b"}, {Id: 33, N: 7}, {Id: 38, S: "c"}, {Id: 33, N: 8}, {Id: 2, N: -5}, {Id: 999, N: 3, S: "x"}}
	for id, want := range map[int]api.Prop{38: l[0], 33: l[1], 2: l[4], 999: l[5]} {
		if p, ok := prop.Get(l, id); p != want || !ok {
			t.Errorf("Get(%d) = %v, %v; want %v", id, p, ok, want)
		}
		if n := prop.Number(l, id, 99); n != want.N {
			t.Errorf("Number(%d) = %d, want %d", id, n, want.N)
		}
	}
	for _, id := range []int{0, -1, 3, 39, 37} {
		for _, list := range [][]api.Prop{l, nil, {}} {
			if p, ok := prop.Get(list, id); p != (api.Prop{}) || ok {
				t.Errorf("Get(%d) = %v, %v", id, p, ok)
			}
			for _, n := range []int{99, 0, -3, math.MaxInt} {
				if got := prop.Number(list, id, n); got != n {
					t.Errorf("Number(%d, %d) = %d", id, n, got)
				}
			}
		}
	}
	if n := prop.Number([]api.Prop{{Id: 17}}, 17, 5); n != 0 {
		t.Errorf("Number of 0 = %d", n)
	}
}

// Pr2: those with another identifier, in their order, in a new list.
func TestWithout(t *testing.T) {
	l := []api.Prop{{Id: 38, S: "a"}, {Id: 2, N: 1}, {Id: 38, S: "b"}, {Id: 11, N: 2}, {Id: 2, N: 3}}
	before := slices.Clone(l)
	for id, want := range map[int][]api.Prop{
		38: {l[1], l[3], l[4]}, 2: {l[0], l[2], l[3]}, 11: {l[0], l[1], l[2], l[4]}, 0: l, 99: l, -1: l,
	} {
		got := prop.Without(l, id)
		if !slices.Equal(got, want) {
			t.Errorf("Without(%d) = %v, want %v", id, got, want)
		}
		for i := range got {
			got[i] = api.Prop{}
		}
		_ = append(got, api.Prop{Id: 7})
		if !slices.Equal(l, before) {
			t.Fatalf("Without(%d) shares its list: %v", id, l)
		}
	}
	if got := append(prop.Without(nil, 3), prop.Without(l[:1], 38)...); len(got) != 0 {
		t.Errorf("Without of nothing = %v", got)
	}
}
