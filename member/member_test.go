package member_test

import (
	"fmt"
	"math"
	"math/rand"
	"slices"
	"testing"

	"towncrier/api"
	"towncrier/member"
)

// has fails the test unless just these are members, with this generation.
func has(t *testing.T, m *member.Members, generation int, l ...api.Member) {
	t.Helper()
	if all := m.All(); !slices.Equal(all, l) || m.Generation() != generation {
		t.Errorf("All() = %+v, Generation() = %d; want %+v, %d", all, m.Generation(), l, generation)
	}
	var here []string
	for _, x := range l {
		if y, ok := m.Get(x.Client); y != x || !ok {
			t.Errorf("Get(%q) = %+v, %v; want %+v", x.Client, y, ok, x)
		}
		if x.Online {
			here = append(here, x.Client)
		}
	}
	owner := ""
	if len(here) > 0 {
		owner = here[0]
	}
	if got := m.Here(); !slices.Equal(got, here) || m.Owner() != owner {
		t.Errorf("Here() = %q, Owner() = %q; want %q", got, m.Owner(), here)
	}
}

// says fails the test unless an answer is the one that is wanted.
func says(t *testing.T, what string, got, want bool) {
	t.Helper()
	if got != want {
		t.Errorf("%s = %v", what, got)
	}
}

// Me1: who joins comes last; who is a member gets another QoS only.
func TestJoin(t *testing.T) {
	var m member.Members
	has(t, &m, 0)
	says(t, "Join a", m.Join("a", 1), true)
	says(t, "Join b", m.Join("b", -7), true)
	says(t, "Join nobody", m.Join("", math.MaxInt), true)
	has(t, &m, 3, api.Member{Client: "a", Since: 1, Qos: 1, Online: true}, api.Member{Client: "b", Since: 2, Qos: -7, Online: true}, api.Member{Since: 3, Qos: math.MaxInt, Online: true})
	m.Online("a", false)
	says(t, "Join a again", m.Join("a", 2), false)
	has(t, &m, 4, api.Member{Client: "a", Since: 1, Qos: 2}, api.Member{Client: "b", Since: 2, Qos: -7, Online: true}, api.Member{Since: 3, Qos: math.MaxInt, Online: true})
	if x, ok := m.Get("A"); x != (api.Member{}) || ok {
		t.Errorf("Get of nobody = %+v, %v", x, ok)
	}
}

// Me1: who leaves and joins again comes last, with a new generation.
func TestLeave(t *testing.T) {
	var m member.Members
	says(t, "Leave before", m.Leave("a"), false)
	m.Join("a", 0)
	m.Join("b", 1)
	says(t, "Leave of another one", m.Leave("c"), false)
	says(t, "Leave a", m.Leave("a"), true)
	says(t, "Leave a again", m.Leave("a"), false)
	has(t, &m, 3, api.Member{Client: "b", Since: 2, Qos: 1, Online: true})
	says(t, "Join a", m.Join("a", 2), true)
	has(t, &m, 4, api.Member{Client: "b", Since: 2, Qos: 1, Online: true}, api.Member{Client: "a", Since: 4, Qos: 2, Online: true})
}

// Me1: the generation increases when a member comes or goes; the chapter's example is that b owns when a goes.
func TestOnline(t *testing.T) {
	var m member.Members
	says(t, "Online of nobody", m.Online("a", true), false)
	m.Join("a", 0)
	m.Join("b", 1)
	says(t, "a comes, who is here", m.Online("a", true), false)
	has(t, &m, 2, api.Member{Client: "a", Since: 1, Online: true}, api.Member{Client: "b", Since: 2, Qos: 1, Online: true})
	says(t, "a goes", m.Online("a", false), true)
	says(t, "a goes again", m.Online("a", false), false)
	says(t, "c goes", m.Online("c", false), false)
	has(t, &m, 3, api.Member{Client: "a", Since: 1}, api.Member{Client: "b", Since: 2, Qos: 1, Online: true})
	says(t, "b goes", m.Online("b", false), true)
	has(t, &m, 4, api.Member{Client: "a", Since: 1}, api.Member{Client: "b", Since: 2, Qos: 1})
	says(t, "a comes", m.Online("a", true), true)
	has(t, &m, 5, api.Member{Client: "a", Since: 1, Online: true}, api.Member{Client: "b", Since: 2, Qos: 1})
}

// Me1: of nothing, all results are empty.
func TestNothing(t *testing.T) {
	var m *member.Members
	if m.Join("a", 1) || m.Leave("a") || m.Online("a", true) || m.Online("a", false) {
		t.Error("there is a member")
	}
	if x, ok := m.Get("a"); x != (api.Member{}) || ok {
		t.Errorf("Get = %+v, %v", x, ok)
	}
	has(t, m, 0)
}

// R3: lists are not handed out.
func TestListsAreNew(t *testing.T) {
	var m member.Members
	m.Join("a", 1)
	m.Join("b", 1)
	m.All()[0].Client = "x"
	m.Here()[0] = "x"
	_ = append(m.All()[:1], api.Member{Client: "y"})
	has(t, &m, 2, api.Member{Client: "a", Since: 1, Qos: 1, Online: true}, api.Member{Client: "b", Since: 2, Qos: 1, Online: true})
}

// Me2: nobody comes ahead of those who joined earlier; an owner stays as long as it is here, unless one that joined earlier comes back, and then the earliest one that is here owns.
func TestOrder(t *testing.T) {
	rnd := rand.New(rand.NewSource(31))
	for range 200 {
		var m member.Members
		for range 60 {
			before, owner, generation := m.All(), m.Owner(), m.Generation()
			who, changed := fmt.Sprint(rnd.Intn(5)), false
			switch rnd.Intn(4) {
			case 0:
				changed = m.Leave(who)
			case 1:
				changed = m.Join(who, 1)
			default:
				changed = m.Online(who, rnd.Intn(2) > 0)
			}
			if changed != (m.Generation() == generation+1) || !changed && m.Generation() != generation {
				t.Fatalf("from generation %d to %d", generation, m.Generation())
			}
			all := m.All()
			if !slices.IsSortedFunc(all, func(a, b api.Member) int { return a.Since - b.Since }) || len(all) > 0 && all[len(all)-1].Since > m.Generation() {
				t.Fatalf("%+v is not in its order", all)
			}
			if x, ok := m.Get(owner); ok && x.Online && m.Owner() != owner {
				if y, _ := m.Get(m.Owner()); y.Since > x.Since || !slices.ContainsFunc(before, func(z api.Member) bool { return z.Client == y.Client }) {
					t.Fatalf("%q owned and is here, but %q owns", owner, m.Owner())
				}
			}
			if here := m.Here(); len(here) > 0 && m.Owner() != here[0] || len(here) == 0 && m.Owner() != "" {
				t.Fatalf("%q owns, of %q", m.Owner(), here)
			}
		}
	}
}
