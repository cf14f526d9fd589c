package group_test

import (
	"fmt"
	"math"
	"slices"
	"strings"
	"testing"

	"towncrier/api"
	"towncrier/group"
)

// same tells whether two values are the same; nil and the empty list are.
func same[T any](a, b T) bool {
	return fmt.Sprintf("%+v", a) == fmt.Sprintf("%+v", b)
}

// message is one with a number and a topic.
func message(seq int, topic string) api.Msg {
	return api.Msg{Topic: topic, Payload: "p", Qos: 1, Props: []api.Prop{{Id: 3, S: topic}}, From: "f", Seq: seq, Group: "g"}
}

// with is a group with room for ten messages, with members, and with messages whose topics are told, numbered from 1 on.
func with(strategy int, members, topics string) *group.Group {
	g := group.New("g/#", strategy, 10)
	for _, m := range strings.Fields(members) {
		g.Join(m, 1)
	}
	for i, topic := range strings.Fields(topics) {
		g.Add(message(i+1, topic))
	}
	return g
}

// items are a group's messages: their numbers, and to whom they are in transit, who refused them, and whether they may have been sent.
func items(g *group.Group) string {
	var l []string
	for _, x := range g.Items() {
		s := fmt.Sprint(x.Msg.Seq)
		if x.At != "" {
			s += ":" + x.At
		}
		if len(x.Behind) > 0 {
			s += "-" + strings.Join(x.Behind, "-")
		}
		if x.Again {
			s += "*"
		}
		l = append(l, s)
	}
	return strings.Join(l, " ")
}

// has fails the test unless a group has these messages.
func has(t *testing.T, g *group.Group, want string) {
	t.Helper()
	if got := items(g); got != want {
		t.Errorf("Items() = %s, want %s", got, want)
	}
}

// says fails the test unless an answer is the one that is wanted.
func says(t *testing.T, what string, got, want bool) {
	t.Helper()
	if got != want {
		t.Errorf("%s = %v", what, got)
	}
}

// Gr1: a new group, and its members, which are as in layer 31.
func TestMembers(t *testing.T) {
	g := group.New("k/a", 3, 5)
	if g.Key() != "k/a" || g.Strategy() != 3 || g.Generation() != 0 || len(g.Members()) > 0 || g.Room() != 5 || !g.Idle() {
		t.Errorf("a new group has %+v", g)
	}
	says(t, "Join a", g.Join("a", 1), true)
	says(t, "Join b", g.Join("b", 2), true)
	says(t, "Join a again", g.Join("a", 0), false)
	says(t, "b goes", g.Online("b", false), true)
	says(t, "b goes again", g.Online("b", false), false)
	says(t, "c comes", g.Online("c", true), false)
	if l := g.Members(); !slices.Equal(l, []api.Member{{Client: "a", Since: 1, Online: true}, {Client: "b", Since: 2, Qos: 2}}) || g.Generation() != 3 {
		t.Errorf("Members() = %+v, Generation() = %d", l, g.Generation())
	}
	says(t, "b comes", g.Online("b", true), true)
	says(t, "Leave a", g.Leave("a"), true)
	says(t, "Leave a again", g.Leave("a"), false)
	says(t, "Idle", g.Idle(), false)
	says(t, "Leave b", g.Leave("b"), true)
	says(t, "Idle", g.Idle(), true)
	if g.Generation() != 6 {
		t.Errorf("Generation() = %d", g.Generation())
	}
}

// Gr1: messages come behind all others, as long as there is room.
func TestAdd(t *testing.T) {
	g := group.New("k", 1, 2)
	a, b := message(7, "a"), message(5, "b")
	says(t, "Add a", g.Add(a), true)
	if g.Room() != 1 || g.Idle() {
		t.Errorf("Room() = %d", g.Room())
	}
	says(t, "Add b", g.Add(b), true)
	says(t, "Add c", g.Add(message(9, "c")), false)
	if l := g.Items(); !same(l, []api.Item{{Msg: a}, {Msg: b}}) || g.Room() != 0 {
		t.Errorf("Items() = %+v, Room() = %d", l, g.Room())
	}
	for _, most := range []int{0, -1, math.MinInt} {
		g := group.New("k", 1, most)
		says(t, "Add without room", g.Add(a), false)
		if g.Room() != 0 || !g.Idle() {
			t.Errorf("Room() = %d", g.Room())
		}
	}
}

// Gr2: what is sent is in transit; a message that waits may be sent to members that are connected.
func TestSent(t *testing.T) {
	g := with(api.Robin, "a b", "x x y")
	g.Online("b", false)
	says(t, "1 to b, who is not here", g.Sent(1, "b"), false)
	says(t, "1 to c, who is no member", g.Sent(1, "c"), false)
	says(t, "1 to nobody", g.Sent(1, ""), false)
	says(t, "9 to a", g.Sent(9, "a"), false)
	has(t, g, "1 2 3")
	says(t, "2 to a", g.Sent(2, "a"), true)
	says(t, "2 to a again", g.Sent(2, "a"), false)
	has(t, g, "1 2:a* 3")
	g.Online("b", true)
	says(t, "2 to b", g.Sent(2, "b"), false)
	says(t, "3 to b", g.Sent(3, "b"), true)
	has(t, g, "1 2:a* 3:b*")
}

// Gr2: by keys, a message is not sent while its lane does not allow it.
func TestSentByKey(t *testing.T) {
	g := with(api.Hash, "a b", "x x y x")
	says(t, "2 ahead of 1", g.Sent(2, "a"), false)
	says(t, "1 to a", g.Sent(1, "a"), true)
	says(t, "2 to b", g.Sent(2, "b"), false)
	says(t, "4 ahead of 2", g.Sent(4, "a"), false)
	says(t, "3 to b", g.Sent(3, "b"), true)
	says(t, "2 to a", g.Sent(2, "a"), true)
	has(t, g, "1:a* 2:a* 3:b* 4")
	says(t, "1 is done", g.Done(1, "a"), true)
	says(t, "4 to b", g.Sent(4, "b"), false)
	says(t, "2 is done", g.Done(2, "a"), true)
	says(t, "4 to b", g.Sent(4, "b"), true)
	has(t, g, "3:b* 4:b*")
}

// Gr2: what is done is gone; what is refused waits again, and who refused it is noted once.
func TestDoneAndBack(t *testing.T) {
	g := with(api.Robin, "a b", "x y z")
	for _, client := range []string{"a", "", "b"} {
		says(t, "done before", g.Done(1, client), false)
		says(t, "back before", g.Back(1, client), false)
	}
	g.Sent(1, "a")
	g.Sent(2, "a")
	for _, client := range []string{"b", "", "c"} {
		says(t, "done by another one", g.Done(1, client), false)
		says(t, "back by another one", g.Back(1, client), false)
	}
	says(t, "back of none", g.Back(9, "a"), false)
	says(t, "2 back", g.Back(2, "a"), true)
	says(t, "2 back again", g.Back(2, "a"), false)
	has(t, g, "1:a* 2-a* 3")
	g.Sent(2, "b")
	says(t, "2 back", g.Back(2, "b"), true)
	g.Sent(2, "a")
	has(t, g, "1:a* 2:a-a-b* 3")
	says(t, "2 back", g.Back(2, "a"), true)
	has(t, g, "1:a* 2-a-b* 3")
	says(t, "1 done", g.Done(1, "a"), true)
	says(t, "1 done again", g.Done(1, "a"), false)
	g.Sent(2, "a")
	says(t, "2 done", g.Done(2, "a"), true)
	has(t, g, "3")
}

// Gr1: what is in transit to a member that goes, or leaves, waits.
func TestGoing(t *testing.T) {
	g := with(api.Robin, "a b", "x y z")
	for i, client := range []string{"a", "b", "a"} {
		g.Sent(i+1, client)
	}
	g.Online("a", false)
	has(t, g, "1* 2:b* 3*")
	g.Leave("b")
	has(t, g, "1* 2* 3*")
	g.Online("a", true)
	g.Sent(1, "a")
	g.Leave("c")
	g.Online("a", true)
	g.Join("a", 2)
	has(t, g, "1:a* 2* 3*")
}

// Gr2: after a crash, all may have been sent.
func TestDoubt(t *testing.T) {
	g := with(api.Robin, "a", "x y")
	g.Sent(2, "a")
	g.Doubt()
	has(t, g, "1* 2:a*")
	g.Add(message(3, "z"))
	has(t, g, "1* 2:a* 3")
}

// Gr2: what waits and has expired is gone.
func TestExpire(t *testing.T) {
	g := group.New("g", 1, 9)
	g.Join("a", 1)
	for i, n := range []int{5, 0, 7, 5, -3, 5} {
		m := message(10-i, "x")
		m.Until = n
		g.Add(m)
	}
	g.Sent(7, "a")
	for now, want := range map[int][]int{4: nil, 0: nil, math.MinInt: nil} {
		if l := g.Expire(now); !slices.Equal(l, want) {
			t.Errorf("Expire(%d) = %v", now, l)
		}
	}
	if l := g.Expire(5); !slices.Equal(l, []int{10, 5}) {
		t.Errorf("Expire(5) = %v", l)
	}
	has(t, g, "9 8 7:a* 6")
	g.Back(7, "a")
	if l := g.Expire(math.MaxInt); !slices.Equal(l, []int{8, 7}) || g.Room() != 7 {
		t.Errorf("Expire = %v, Room() = %d", l, g.Room())
	}
	has(t, g, "9 6")
}

// Gr2: no group, and a zero one.
func TestNothing(t *testing.T) {
	for _, g := range []*group.Group{nil, {}} {
		g.Doubt()
		if g.Key() != "" || g.Strategy() != 0 || g.Join("a", 1) || g.Online("a", true) || g.Online("a", false) || g.Leave("a") || len(g.Members()) > 0 || g.Generation() != 0 {
			t.Error("there is a member")
		}
		m, client, ok := g.Next([]string{"a", ""})
		if g.Add(message(1, "x")) || g.Room() != 0 || ok || client != "" || !same(m, api.Msg{}) || g.Sent(1, "a") || g.Done(1, "a") || g.Back(1, "a") || len(g.Expire(math.MaxInt)) > 0 || len(g.Items()) > 0 || !g.Idle() {
			t.Error("there is a message")
		}
	}
}

// R3: lists are neither kept, nor handed out, nor changed.
func TestListsAreNew(t *testing.T) {
	g := group.New("g", 1, 9)
	m := message(1, "x")
	g.Add(m)
	g.Join("a", 1)
	g.Join("b", 1)
	g.Sent(1, "a")
	g.Back(1, "a")
	m.Props[0].S = "y"
	x := g.Items()[0]
	x.Msg.Props[0].S, x.Behind[0] = "y", "z"
	g.Members()[0].Client = "z"
	free := []string{"b", "a"}
	n, client, ok := g.Next(free[:1])
	if !ok || client != "b" || !same(n, message(1, "x")) || !slices.Equal(free, []string{"b", "a"}) {
		t.Errorf("Next = %+v, %q; free are %q", n, client, free)
	}
	n.Props[0].S = "y"
	if n, _, _ = g.Next(free[:1]); !same(n, message(1, "x")) {
		t.Errorf("Next = %+v", n)
	}
	has(t, g, "1-a*")
}
