package group_test

import (
	"fmt"
	"math/rand"
	"slices"
	"strings"
	"testing"

	"towncrier/api"
	"towncrier/group"
	"towncrier/lane"
	"towncrier/pick"
)

// next fails the test unless the next message, for those who are free, has this number and goes to this client; 0: there is none.
func next(t *testing.T, g *group.Group, free string, seq int, client string) {
	t.Helper()
	if m, who, ok := g.Next(strings.Fields(free)); m.Seq != seq || who != client || ok != (seq > 0) {
		t.Errorf("%s: Next(%s) = %d, %q, %v; want %d, %q", items(g), free, m.Seq, who, ok, seq, client)
	}
}

// send is next, and then the message is sent.
func send(t *testing.T, g *group.Group, free string, seq int, client string) {
	t.Helper()
	next(t, g, free, seq, client)
	if !g.Sent(seq, client) {
		t.Errorf("%s: %d is not sent to %s", items(g), seq, client)
	}
}

// Gr2: members take turns; so they do by strategies that are none.
func TestRobin(t *testing.T) {
	for _, strategy := range []int{api.Robin, 0, 6, -1, 1 << 40} {
		g := with(strategy, "a b c", "x x x x x x")
		next(t, g, "", 0, "")
		next(t, g, "d", 0, "")
		send(t, g, "a b c", 1, "a")
		send(t, g, "a b c", 2, "b")
		send(t, g, "b a", 3, "a")
		send(t, g, "c b a", 4, "b")
		send(t, g, "b a", 5, "a")
		g.Leave("a")
		send(t, g, "a c b", 1, "b")
		g.Online("b", false)
		next(t, g, "b", 0, "")
		send(t, g, "a b c", 1, "c")
		has(t, g, "1:c* 2* 3* 4* 5* 6")
	}
}

// Gr2: what was refused goes to one that did not, and, if all that are here did, to all again; the chapter's example is Back by a.
func TestRefused(t *testing.T) {
	g := with(api.Robin, "a b c", "x y")
	send(t, g, "a b c", 1, "a")
	g.Back(1, "a")
	next(t, g, "a", 2, "a")
	send(t, g, "a b c", 1, "b")
	g.Back(1, "b")
	next(t, g, "a b", 2, "a")
	send(t, g, "a b c", 1, "c")
	g.Back(1, "c")
	send(t, g, "a b c", 1, "a")
	g.Back(1, "a")
	g.Join("d", 1)
	next(t, g, "a b c", 2, "b")
	next(t, g, "a b c d", 1, "d")
	g.Online("d", false)
	next(t, g, "a b c d", 1, "b")
	has(t, g, "1-a-b-c* 2")
}

// Gr2: by its publisher, a message goes to one member, if that is free.
func TestSticky(t *testing.T) {
	here := []string{"a", "b", "c"}
	for _, from := range []string{"", "f", "p1", "p2", "p3", "p4"} {
		g := with(api.Sticky, "a b c", "")
		for i, topic := range []string{"x", "y", "z"} {
			m := message(i+1, topic)
			m.From = from
			g.Add(m)
		}
		who := pick.Hash(here, from)
		others := slices.DeleteFunc(slices.Clone(here), func(s string) bool { return s == who })
		second := pick.Hash(others, from)
		next(t, g, strings.Join(others, " "), 0, "")
		send(t, g, "a b c", 1, who)
		send(t, g, "a b c", 2, who)
		g.Back(1, who)
		next(t, g, who, 3, who)
		send(t, g, "a b c", 1, second)
		g.Online(who, false)
		send(t, g, "a b c", 2, second)
		g.Online(who, true)
		send(t, g, "a b c", 3, who)
	}
}

// Gr2: by its key, a message goes to where its lane is in transit, and otherwise to where its key leads.
func TestHash(t *testing.T) {
	here := []string{"a", "b", "c"}
	first := pick.Hash(here, "x")
	others := slices.DeleteFunc(slices.Clone(here), func(s string) bool { return s == first })
	second := pick.Hash(others, "x")
	g := with(api.Hash, "a b c", "x x x")
	next(t, g, strings.Join(others, " "), 0, "")
	send(t, g, "a b c", 1, first)
	send(t, g, "a b c", 2, first)
	g.Back(1, first)
	// Though it was refused there, its lane is in transit there.
	next(t, g, strings.Join(others, " "), 0, "")
	send(t, g, first, 1, first)
	g.Back(1, first)
	g.Back(2, first)
	send(t, g, "a b c", 1, second)
	send(t, g, "a b c", 2, second)
	g.Done(1, second)
	send(t, g, second, 3, second)
	g.Online(second, false)
	third := pick.Hash(slices.DeleteFunc(others, func(s string) bool { return s == second }), "x")
	send(t, g, "a b c", 2, third)
	next(t, g, first, 0, "")
	g.Done(2, third)
	send(t, g, "a b c", 3, first)
	next(t, g, "", 0, "")
}

// Gr2: by keys, what can't be sent does not hinder what can.
func TestHashGoesOn(t *testing.T) {
	var keys []string
	for i := 0; len(keys) < 2; i++ {
		if key := fmt.Sprint("k", i); pick.Hash([]string{"a", "b"}, key) == []string{"a", "b"}[len(keys)] {
			keys = append(keys, key)
		}
	}
	g := with(api.Hash, "a b", strings.Join([]string{keys[0], keys[0], keys[1]}, " "))
	next(t, g, "b", 3, "b")
	send(t, g, "a", 1, "a")
	next(t, g, "b", 3, "b")
	next(t, g, "a b", 2, "a")
}

// Gr2: a message goes to the one with the fewest, of those that may get it and are free.
func TestLeast(t *testing.T) {
	g := with(api.Least, "a b c", "x x x x x x x")
	send(t, g, "b c", 1, "b")
	send(t, g, "c b a", 2, "a")
	send(t, g, "a b", 3, "a")
	send(t, g, "a b", 4, "b")
	send(t, g, "b a", 5, "a")
	send(t, g, "b a", 6, "b")
	g.Done(5, "a")
	send(t, g, "b a c", 7, "c")
	g.Back(7, "c")
	next(t, g, "c", 0, "")
	next(t, g, "a b c", 7, "a")
	g.Done(6, "b")
	g.Done(4, "b")
	next(t, g, "a b c", 7, "b")
}

// Gr2: all goes to the owner, in order, whether it refused it or not.
func TestExclusive(t *testing.T) {
	g := with(api.Exclusive, "a b", "x y z")
	next(t, g, "b", 0, "")
	send(t, g, "a b", 1, "a")
	send(t, g, "a", 2, "a")
	g.Back(1, "a")
	send(t, g, "b a", 1, "a")
	g.Online("a", false)
	next(t, g, "a", 0, "")
	send(t, g, "b a", 1, "b")
	g.Online("a", true)
	next(t, g, "b", 0, "")
	next(t, g, "a", 2, "a")
	g.Leave("a")
	g.Leave("b")
	next(t, g, "a b", 0, "")
}

// Gr3: each message is there once, until it is done or discarded; what is in transit is so to a member that is here; and Sent takes what Next returns.
func TestAlways(t *testing.T) {
	rnd := rand.New(rand.NewSource(35))
	for round := range 600 {
		strategy := round % 7
		g := group.New("g", strategy, 6)
		present := map[int]bool{}
		seq := 0
		for range 120 {
			who := []string{"a", "b", "c"}[rnd.Intn(3)]
			var free []string
			for _, s := range []string{"c", "a", "b"} {
				if rnd.Intn(3) > 0 {
					free = append(free, s)
				}
			}
			switch rnd.Intn(10) {
			case 0:
				g.Join(who, 1)
			case 1:
				if rnd.Intn(3) == 0 {
					g.Leave(who)
				}
			case 2:
				g.Online(who, rnd.Intn(3) > 0)
			case 3, 4:
				seq++
				m := message(seq, []string{"x", "y"}[rnd.Intn(2)])
				m.From, m.Until = who, rnd.Intn(9)
				if ok := g.Room() > 0; g.Add(m) != ok {
					t.Fatalf("Add = %v, Room() = %d", !ok, g.Room())
				} else if ok {
					present[seq] = true
				}
			case 5:
				if l := g.Items(); len(l) > 0 {
					if x := l[rnd.Intn(len(l))]; g.Done(x.Msg.Seq, x.At) {
						delete(present, x.Msg.Seq)
					}
				}
			case 6:
				if l := g.Items(); len(l) > 0 {
					x := l[rnd.Intn(len(l))]
					g.Back(x.Msg.Seq, x.At)
				}
			case 7:
				for _, n := range g.Expire(rnd.Intn(3)) {
					delete(present, n)
				}
			default:
				m, client, ok := g.Next(free)
				if ok && (!slices.Contains(free, client) || !g.Sent(m.Seq, client)) {
					t.Fatalf("%s: Next = %d, %q", items(g), m.Seq, client)
				}
				if !ok && (strategy != api.Sticky && strategy != api.Hash && strategy != api.Exclusive) && stuck(g, free) {
					t.Fatalf("%s: nothing goes to %v", items(g), free)
				}
			}
			sound(t, g, strategy, len(present))
		}
	}
}

// stuck tells whether a member that is here is free, and something waits that it did not refuse, or that all refused.
func stuck(g *group.Group, free []string) bool {
	here := map[string]bool{}
	for _, m := range g.Members() {
		if m.Online {
			here[m.Client] = true
		}
	}
	for _, x := range g.Items() {
		refused := 0
		for who := range here {
			if slices.Contains(x.Behind, who) {
				refused++
			}
		}
		for who := range here {
			if x.At == "" && slices.Contains(free, who) && (refused == len(here) || !slices.Contains(x.Behind, who)) {
				return true
			}
		}
	}
	return false
}

// sound fails the test unless a group is as it must always be.
func sound(t *testing.T, g *group.Group, strategy, many int) {
	t.Helper()
	l := g.Items()
	if len(l) != many || g.Room() != 6-many || g.Idle() != (many == 0 && len(g.Members()) == 0) {
		t.Fatalf("%s: there are %d", items(g), many)
	}
	for i, x := range l {
		if i > 0 && l[i-1].Msg.Seq >= x.Msg.Seq {
			t.Fatalf("%s: not in order", items(g))
		}
		if x.At != "" && !slices.ContainsFunc(g.Members(), func(m api.Member) bool { return m.Client == x.At && m.Online }) {
			t.Fatalf("%s: members are %+v", items(g), g.Members())
		}
	}
	if strategy == api.Hash && !lane.Sound(l) {
		t.Fatalf("%s: lanes are not sound", items(g))
	}
}
