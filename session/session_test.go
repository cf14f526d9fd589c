package session_test

import (
	"fmt"
	"math"
	"slices"
	"testing"

	"towncrier/api"
	"towncrier/session"
)

// same tells whether two values are the same; nil and the empty list are.
func same[T any](a, b T) bool {
	return fmt.Sprintf("%+v", a) == fmt.Sprintf("%+v", b)
}

// fresh is a session with room for 4 messages that wait, and for 2 that arrive.
func fresh() *session.Session {
	return session.New("c", api.Config{Queue: 4, Receive: 2})
}

// begun is one that is online, with a Receive.
func begun(receive int) *session.Session {
	s := fresh()
	s.Begin(api.Terms{Receive: receive, Expiry: 100}, api.Last{})
	return s
}

// will is a will with properties, of which there is room for more behind their list.
func will() api.Last {
	return api.Last{Has: true, Topic: "w", Payload: "p", Qos: 2, Retain: true, Props: append(make([]api.Prop, 0, 8), api.Prop{Id: 24, N: 5}, api.Prop{Id: 38, S: "k", V: "v"})}
}

// Se1: a new session has nothing, and is not online.
func TestNew(t *testing.T) {
	s := fresh()
	if s.Online() || !same(s.Terms(), api.Terms{}) || !same(s.Will(), api.Last{}) || len(s.Filters()) > 0 || len(s.Waiting()) > 0 || len(s.Flights()) > 0 || s.Room() != 0 {
		t.Errorf("a new session has %+v", s)
	}
	for _, now := range []int{0, 1, -1, math.MinInt, math.MaxInt} {
		if !s.Gone(now) {
			t.Errorf("not gone at %d", now)
		}
	}
	s.SetExpiry(5)
	for now, want := range map[int]bool{-1: false, 0: false, 4: false, 5: true, 6: true} {
		if s.Gone(now) != want {
			t.Errorf("gone at %d: %v", now, !want)
		}
	}
}

// Se1: terms and will are those of the last Begin, until they are set.
func TestBegin(t *testing.T) {
	s := fresh()
	a, b := api.Terms{Expiry: 7, Receive: 3, Packet: 100, Aliases: 2, Keep: 5, Problem: true}, api.Terms{Expiry: 9, Receive: 1}
	s.Begin(a, will())
	if !s.Online() || s.Terms() != a || !same(s.Will(), will()) {
		t.Errorf("begun with %+v, %+v", s.Terms(), s.Will())
	}
	s.SetExpiry(-4)
	a.Expiry = -4
	if s.Terms() != a {
		t.Errorf("the terms became %+v", s.Terms())
	}
	s.SetWill(api.Last{Topic: "x"})
	if !same(s.Will(), api.Last{Topic: "x"}) {
		t.Errorf("the will became %+v", s.Will())
	}
	s.Begin(b, will())
	if s.Terms() != b || !same(s.Will(), will()) {
		t.Errorf("begun again with %+v, %+v", s.Terms(), s.Will())
	}
	s.End(4)
	if s.Online() || s.Terms() != b || !same(s.Will(), will()) {
		t.Errorf("ended with %+v, %+v", s.Terms(), s.Will())
	}
	s.Begin(a, api.Last{})
	if !s.Online() || s.Terms() != a || !same(s.Will(), api.Last{}) {
		t.Errorf("back with %+v, %+v", s.Terms(), s.Will())
	}
}

// Se1: a session is gone when it is not online, and as much time as Expiry has passed.
func TestGone(t *testing.T) {
	const latest = 1 << 40
	for _, x := range []struct {
		expiry, ended, now int
		want               bool
	}{
		{0, 5, 5, true}, {0, 5, 4, false}, {1, 5, 5, false}, {1, 5, 6, true}, {10, 5, 14, false}, {10, 5, 15, true}, {10, 5, math.MaxInt, true}, {10, 5, math.MinInt, false},
		{1<<32 - 1, 5, math.MaxInt, false}, {1<<32 - 2, 5, 5 + 1<<32 - 3, false}, {1<<32 - 2, 5, 5 + 1<<32 - 2, true}, {1 << 32, 5, latest, true},
		{10, -7, 9, false}, {10, -7, 10, true}, {10, math.MinInt, 9, false}, {3, latest + 9, latest + 9, false}, {0, latest + 9, latest, true}, {1, latest - 1, math.MaxInt, true}, {2, latest - 1, math.MaxInt, false},
		{-3, 10, 7, true}, {-3, 10, 6, false}, {math.MinInt, latest, 0, true}, {math.MaxInt, 0, math.MaxInt, false},
	} {
		s := fresh()
		s.Begin(api.Terms{Expiry: x.expiry}, api.Last{})
		if s.Gone(x.now) {
			t.Errorf("gone at %d while it is online", x.now)
		}
		s.End(x.ended)
		if s.Gone(x.now) != x.want {
			t.Errorf("expiry %d, ended at %d: gone at %d is %v", x.expiry, x.ended, x.now, !x.want)
		}
		s.End(x.ended + 1)
		s.End(3)
		if s.Gone(x.now) != x.want {
			t.Errorf("expiry %d, ended at %d, and once more: gone at %d is %v", x.expiry, x.ended, x.now, !x.want)
		}
	}
}

// sub fails the test unless a filter has this subscription.
func sub(t *testing.T, s *session.Session, filter string, want api.Sub, id int, is bool) {
	t.Helper()
	if x, n, ok := s.Sub(filter); x != want || n != id || ok != is {
		t.Errorf("Sub(%q) = %+v, %d, %v; want %+v, %d", filter, x, n, ok, want, id)
	}
}

// Se2: there is one subscription of each filter, the last one.
func TestSubscriptions(t *testing.T) {
	s := fresh()
	a, b := api.Sub{Filter: "a/#", Qos: 2, NoLocal: true, AsIs: true, Retain: 1}, api.Sub{Filter: "a/#", Qos: 1}
	c, d := api.Sub{Filter: ""}, api.Sub{Filter: "a", Qos: -1, Retain: 9}
	if !s.Subscribe(a, 7) || s.Subscribe(a, 8) {
		t.Error("Subscribe twice")
	}
	sub(t, s, "a/#", a, 8, true)
	if s.Subscribe(b, 0) || !s.Subscribe(c, -3) || !s.Subscribe(d, math.MaxInt) || !s.Subscribe(api.Sub{Filter: "Z"}, 1) || !s.Subscribe(api.Sub{Filter: "\xff"}, 1) {
		t.Error("Subscribe others")
	}
	sub(t, s, "a/#", b, 0, true)
	sub(t, s, "", c, -3, true)
	sub(t, s, "a", d, math.MaxInt, true)
	sub(t, s, "a/", api.Sub{}, 0, false)
	if l := s.Filters(); !slices.Equal(l, []string{"", "Z", "a", "a/#", "\xff"}) {
		t.Errorf("Filters() = %q", l)
	}
	if s.Unsubscribe("b") || !s.Unsubscribe("a/#") || s.Unsubscribe("a/#") || !s.Unsubscribe("") {
		t.Error("Unsubscribe")
	}
	sub(t, s, "a/#", api.Sub{}, 0, false)
	if l := s.Filters(); !slices.Equal(l, []string{"Z", "a", "\xff"}) {
		t.Errorf("Filters() = %q", l)
	}
	s.Begin(api.Terms{}, api.Last{})
	s.End(0)
	if len(s.Filters()) != 3 || !s.Subscribe(a, 7) {
		t.Error("subscriptions depend on the connection")
	}
}

// Se3: what arrives is as in layer 25, with room for Receive of the bounds.
func TestArrives(t *testing.T) {
	s := fresh()
	for k, x := range []struct{ id, qos, want int }{
		{1, 0, api.InWrong}, {1, 2, api.InNew}, {1, 2, api.InAgain}, {1, 1, api.InWrong}, {2, 1, api.InNew}, {3, 1, api.InFull}, {3, 2, api.InFull}, {3, 3, api.InWrong},
	} {
		if got := s.Take(x.id, x.qos); got != x.want {
			t.Errorf("%d: Take(%d, %d) = %d, want %d", k, x.id, x.qos, got, x.want)
		}
	}
	if s.Release(2) || !s.Release(1) || s.Release(1) || s.Done(1) || !s.Done(2) || s.Done(2) || s.Take(3, 2) != api.InNew || s.Release(9) {
		t.Error("Release and Done")
	}
	s.Begin(api.Terms{Receive: 9}, api.Last{})
	if s.Take(3, 2) != api.InAgain || s.Take(4, 1) != api.InNew || s.Take(5, 1) != api.InFull {
		t.Error("what arrived depends on the connection")
	}
}

// Se3: no session, and a zero one.
func TestNothing(t *testing.T) {
	for _, s := range []*session.Session{nil, {}} {
		s.Begin(api.Terms{Receive: 5, Expiry: 1<<32 - 1}, will())
		s.SetExpiry(1<<32 - 1)
		s.SetWill(will())
		s.End(3)
		if s.Online() || !s.Gone(0) || !s.Gone(math.MinInt) || s.Terms() != (api.Terms{}) || !same(s.Will(), api.Last{}) {
			t.Error("there is a connection")
		}
		if s.Subscribe(api.Sub{Filter: "a"}, 1) || s.Subscribe(api.Sub{Filter: "a"}, 1) || s.Unsubscribe("a") || len(s.Filters()) > 0 {
			t.Error("there is a subscription")
		}
		sub(t, s, "a", api.Sub{}, 0, false)
		for qos := range 3 {
			m := api.Msg{Topic: "t", Qos: qos}
			p, ok := s.Give(m, 0)
			if s.Push(m) || ok || !same(p, api.Packet{}) {
				t.Error("a message waits, or is sent")
			}
		}
		if p, ok := s.Next(0); ok || !same(p, api.Packet{}) || s.Room() != 0 || len(s.Waiting()) > 0 || len(s.Flights()) > 0 || len(s.Back()) > 0 {
			t.Error("there is a message")
		}
		for kind := range 16 {
			if n, m := s.Ack(api.Packet{Kind: kind, Id: 1}); n != 0 || !same(m, api.Msg{}) {
				t.Errorf("Ack of kind %d = %d, %+v", kind, n, m)
			}
		}
		if s.Take(1, 1) != 0 || s.Take(1, 2) != 0 || s.Take(1, 5) != 0 || s.Done(1) || s.Release(1) {
			t.Error("something arrived")
		}
	}
}

// R3: lists are neither kept, nor handed out, nor changed.
func TestListsAreNew(t *testing.T) {
	s := fresh()
	l := will()
	s.Begin(api.Terms{Receive: 5}, l)
	l.Props[0].N = 6
	s.Will().Props[1].S = "x"
	if !same(s.Will(), will()) {
		t.Errorf("the will became %+v", s.Will())
	}
	l = will()
	s.SetWill(l)
	l.Props[0].N = 6
	if !same(s.Will(), will()) {
		t.Errorf("the will became %+v", s.Will())
	}
	m := named("a", 2)
	s.Push(m)
	s.Give(m, 0)
	want := named("a", 2)
	m.Props[0].S = "x"
	s.Waiting()[0].Props[0].S = "x"
	s.Flights()[0].Msg.Props[0].S = "x"
	if w, f := s.Waiting(), s.Flights(); len(w) != 1 || !same(w[0], want) || len(f) != 1 || !same(f[0].Msg, want) {
		t.Errorf("wait %+v, in transit %+v", w, f)
	}
	p, _ := s.Next(0)
	p.Props[0].S = "x"
	s.End(0)
	s.Begin(api.Terms{Receive: 5}, l)
	if p, ok := s.Next(0); !ok || !same(p.Props, want.Props) {
		t.Errorf("sent again: %+v", p)
	}
}
