package session_test

import (
	"fmt"
	"math"
	"math/rand"
	"testing"

	"towncrier/api"
	"towncrier/session"
)

// named is a message that has all its fields.
func named(topic string, qos int) api.Msg {
	return api.Msg{Topic: topic, Payload: "p" + topic, Qos: qos, Retain: true, Props: []api.Prop{{Id: 3, S: topic}}, From: "f", Seq: 5}
}

// grouped is one of a group.
func grouped(topic string, qos int) api.Msg {
	m := named(topic, qos)
	m.Group = "g/" + topic
	return m
}

// push fails the test unless a message waits then, or doesn't.
func push(t *testing.T, s *session.Session, m api.Msg, want bool) {
	t.Helper()
	if s.Push(m) != want {
		t.Errorf("Push(%+v) = %v", m, !want)
	}
}

// publish is a message as a Publish.
func publish(m api.Msg, qos, id int, dup bool) api.Packet {
	return api.Packet{Kind: api.Publish, Topic: m.Topic, Payload: m.Payload, Retain: m.Retain, Props: m.Props, Qos: qos, Id: id, Dup: dup}
}

// next fails the test unless this packet is the next one; of no kind: none is.
func next(t *testing.T, s *session.Session, now int, want api.Packet) {
	t.Helper()
	if p, ok := s.Next(now); !same(p, want) || ok != (want.Kind > 0) {
		t.Errorf("Next(%d) = %+v, %v; want %+v", now, p, ok, want)
	}
}

// give fails the test unless this is the packet of a message; of no kind: it is not sent.
func give(t *testing.T, s *session.Session, m api.Msg, now int, want api.Packet) {
	t.Helper()
	if p, ok := s.Give(m, now); !same(p, want) || ok != (want.Kind > 0) {
		t.Errorf("Give(%+v, %d) = %+v, %v; want %+v", m, now, p, ok, want)
	}
}

// ack fails the test unless this becomes of an acknowledgement.
func ack(t *testing.T, s *session.Session, kind, id, reason, want int) {
	t.Helper()
	if n, _ := s.Ack(api.Packet{Kind: kind, Id: id, Reason: reason}); n != want {
		t.Errorf("Ack of kind %d, number %d, reason %#x = %d, want %d", kind, id, reason, n, want)
	}
}

// counts fails the test unless so many wait, are in transit, and may be sent.
func counts(t *testing.T, s *session.Session, waiting, flights, room int) {
	t.Helper()
	if w, f, r := len(s.Waiting()), len(s.Flights()), s.Room(); w != waiting || f != flights || r != room {
		t.Errorf("%d wait, %d are in transit, room for %d; want %d, %d, %d", w, f, r, waiting, flights, room)
	}
}

// back lets the connection end and begin again.
func back(s *session.Session, receive int) {
	s.End(0)
	s.Begin(api.Terms{Receive: receive, Expiry: 100}, api.Last{})
}

// none is no packet.
var none api.Packet

// Se3: what has QoS 0 does not wait without a connection, all else does, as long as there is room.
func TestPush(t *testing.T) {
	s := fresh()
	push(t, s, named("a", 0), false)
	push(t, s, named("a", 1), true)
	push(t, s, named("b", 2), true)
	push(t, s, named("c", -1), true)
	s.Begin(api.Terms{Receive: 1}, api.Last{})
	push(t, s, named("d", 0), true)
	push(t, s, named("e", 0), false)
	push(t, s, named("e", 1), false)
	if l := s.Waiting(); !same(l, []api.Msg{named("a", 1), named("b", 2), named("c", -1), named("d", 0)}) {
		t.Errorf("Waiting() = %+v", l)
	}
	s.End(0)
	counts(t, s, 4, 0, 0)
	next(t, s, 0, none)
	give(t, s, named("x", 0), 0, none)
	counts(t, s, 4, 0, 0)
}

// Se3: what waits is sent in its order, by its QoS, as far as there is room; the chapter's example has a Receive of 1.
func TestNext(t *testing.T) {
	s := begun(1)
	a, b, c, d := named("a", 1), named("b", 2), named("c", 0), named("d", 9)
	for _, m := range []api.Msg{a, b, c, d} {
		push(t, s, m, true)
	}
	counts(t, s, 4, 0, 1)
	next(t, s, 0, publish(a, 1, 1, false))
	counts(t, s, 3, 1, 0)
	next(t, s, 0, none)
	counts(t, s, 3, 1, 0)
	ack(t, s, api.Puback, 1, 0, api.OutDone)
	counts(t, s, 3, 0, 1)
	next(t, s, 0, publish(b, 2, 2, false))
	ack(t, s, api.Pubrec, 2, 0, api.OutRel)
	next(t, s, 0, publish(c, 0, 0, false))
	counts(t, s, 1, 1, 0)
	next(t, s, 0, none)
	ack(t, s, api.Pubcomp, 2, 0, api.OutEnd)
	next(t, s, 0, publish(d, 2, 3, false))
	if f := s.Flights(); !same(f, []api.Flight{{Id: 3, State: 2, Msg: d}}) {
		t.Errorf("Flights() = %+v", f)
	}
	next(t, s, 0, none)
	counts(t, s, 0, 1, 0)
}

// Se3: without a positive Receive nothing with a QoS is sent; all other things are.
func TestReceive(t *testing.T) {
	for _, receive := range []int{0, -1, math.MinInt} {
		s := begun(receive)
		push(t, s, named("a", 0), true)
		push(t, s, named("b", 1), true)
		push(t, s, named("c", 0), true)
		counts(t, s, 3, 0, 0)
		next(t, s, 0, publish(named("a", 0), 0, 0, false))
		next(t, s, 0, none)
		give(t, s, named("d", 1), 0, none)
		give(t, s, named("d", 0), 0, publish(named("d", 0), 0, 0, false))
		counts(t, s, 2, 0, 0)
	}
	s := begun(math.MaxInt)
	counts(t, s, 0, 0, math.MaxInt)
	give(t, s, named("a", 1), 0, publish(named("a", 1), 1, 1, false))
	counts(t, s, 0, 1, math.MaxInt-1)
}

// Se3: what has expired is not sent, and what is sent tells how long it may wait yet; in transit is the message itself.
func TestExpiry(t *testing.T) {
	s := begun(9)
	until := func(topic string, n int) api.Msg {
		m := named(topic, 1)
		m.Until = n
		m.Props = append(m.Props, api.Prop{Id: 2, N: 77})
		return m
	}
	left := func(m api.Msg, n int) api.Msg {
		m.Props = []api.Prop{m.Props[0], {Id: 2, N: n}}
		return m
	}
	a, b, c := until("a", 5), until("b", 9), until("c", 5)
	push(t, s, a, true)
	push(t, s, a, true)
	push(t, s, b, true)
	push(t, s, c, true)
	next(t, s, 5, publish(left(b, 4), 1, 1, false))
	counts(t, s, 1, 1, 8)
	if f := s.Flights(); !same(f, []api.Flight{{Id: 1, State: 1, Msg: b}}) {
		t.Errorf("Flights() = %+v", f)
	}
	next(t, s, 5, none)
	counts(t, s, 0, 1, 8)
	give(t, s, a, 5, none)
	counts(t, s, 0, 1, 8)
	give(t, s, a, 4, publish(left(a, 1), 1, 2, false))
	give(t, s, a, -1, publish(left(a, 5), 1, 3, false))
	s = begun(0)
	push(t, s, a, true)
	push(t, s, b, true)
	next(t, s, 5, none)
	if l := s.Waiting(); !same(l, []api.Msg{b}) {
		t.Errorf("Waiting() = %+v", l)
	}
}

// Se3: Give is for a message that did not wait, which those that wait don't hinder.
func TestGive(t *testing.T) {
	s := begun(2)
	a, b, c := named("a", 1), grouped("b", 2), grouped("c", 7)
	push(t, s, a, true)
	give(t, s, b, 0, publish(b, 2, 1, false))
	give(t, s, c, 0, publish(c, 2, 2, false))
	counts(t, s, 1, 2, 0)
	give(t, s, b, 0, none)
	give(t, s, grouped("d", 0), 0, publish(grouped("d", 0), 0, 0, false))
	if f := s.Flights(); !same(f, []api.Flight{{Id: 1, State: 2, Msg: b}, {Id: 2, State: 2, Msg: c}}) {
		t.Errorf("Flights() = %+v", f)
	}
	if n, m := s.Ack(api.Packet{Kind: api.Pubrec, Id: 2, Reason: 0x80}); n != api.OutBack || !same(m, c) {
		t.Errorf("Ack = %d, %+v", n, m)
	}
	counts(t, s, 1, 1, 1)
	if l := s.Back(); !same(l, []api.Msg{b}) {
		t.Errorf("Back() = %+v", l)
	}
	counts(t, s, 1, 0, 2)
	s.End(0)
	give(t, s, b, 0, none)
	give(t, s, named("d", 0), 0, none)
	counts(t, s, 1, 0, 0)
}

// Se3: when all numbers are in use, nothing is sent, and what waits goes on waiting.
func TestAllNumbers(t *testing.T) {
	s := begun(1 << 20)
	for range 65535 {
		if _, ok := s.Give(api.Msg{Qos: 1}, 0); !ok {
			t.Fatal("no number")
		}
	}
	push(t, s, named("a", 1), true)
	next(t, s, 0, none)
	give(t, s, named("b", 1), 0, none)
	counts(t, s, 1, 65535, 1<<20-65535)
	ack(t, s, api.Puback, 700, 0, api.OutDone)
	next(t, s, 0, publish(named("a", 1), 1, 700, false))
}

// Se1, Se3: what is in transit is sent again when the client is back, one by one, before all else; the client takes fewer then.
func TestAgain(t *testing.T) {
	s := begun(3)
	a, b, c, d := named("a", 1), named("b", 2), named("c", 2), named("d", 0)
	for _, m := range []api.Msg{a, b, c} {
		push(t, s, m, true)
		s.Next(0)
	}
	ack(t, s, api.Pubrec, 2, 0, api.OutRel)
	back(s, 1)
	push(t, s, d, true)
	push(t, s, a, true)
	counts(t, s, 2, 3, 0)
	give(t, s, a, 0, none)
	give(t, s, d, 0, publish(d, 0, 0, false))
	next(t, s, 0, publish(a, 1, 1, true))
	next(t, s, 0, none)
	counts(t, s, 2, 3, 0)
	ack(t, s, api.Puback, 1, 0, api.OutDone)
	next(t, s, 0, api.Packet{Kind: api.Pubrel, Id: 2})
	next(t, s, 0, none)
	ack(t, s, api.Pubcomp, 2, 0, api.OutEnd)
	next(t, s, 0, publish(c, 2, 3, true))
	next(t, s, 0, publish(d, 0, 0, false))
	next(t, s, 0, none)
	counts(t, s, 1, 1, 0)
	ack(t, s, api.Pubrec, 3, 0, api.OutRel)
	ack(t, s, api.Pubcomp, 3, 0, api.OutEnd)
	next(t, s, 0, publish(a, 1, 4, false))
	back(s, 9)
	next(t, s, 0, publish(a, 1, 4, true))
	back(s, 9)
	next(t, s, 0, publish(a, 1, 4, true))
	next(t, s, 0, none)
}

// Se3: what is not in transit any more, or in another state, is not sent again.
func TestAgainSkips(t *testing.T) {
	s := begun(9)
	for _, m := range []api.Msg{named("a", 1), named("b", 2), named("c", 1), grouped("d", 1), named("e", 2), grouped("f", 2)} {
		give(t, s, m, 0, publish(m, m.Qos, len(s.Flights())+1, false))
	}
	ack(t, s, api.Pubrec, 5, 0, api.OutRel)
	back(s, 1)
	ack(t, s, api.Puback, 1, 0, api.OutDone)
	ack(t, s, api.Pubrec, 2, 0, api.OutRel)
	if len(s.Back()) != 2 {
		t.Error("two messages of groups are in transit")
	}
	// 2 is in transit, and not to be sent again: as many as the client takes.
	next(t, s, 0, none)
	counts(t, s, 0, 3, 0)
	ack(t, s, api.Pubcomp, 2, 0, api.OutEnd)
	next(t, s, 0, publish(named("c", 1), 1, 3, true))
	ack(t, s, api.Pubcomp, 5, 0, api.OutEnd)
	push(t, s, named("g", 1), true)
	next(t, s, 0, none)
	ack(t, s, api.Puback, 3, 0x80, api.OutBack)
	next(t, s, 0, publish(named("g", 1), 1, 7, false))
}

// Se3: so it is with what was taken away with its group.
func TestAgainWithoutGroups(t *testing.T) {
	s := begun(9)
	a, b := grouped("a", 1), named("b", 2)
	give(t, s, a, 0, publish(a, 1, 1, false))
	give(t, s, b, 0, publish(b, 2, 2, false))
	back(s, 9)
	if l := s.Back(); !same(l, []api.Msg{a}) {
		t.Errorf("Back() = %+v", l)
	}
	next(t, s, 0, publish(b, 2, 2, true))
	next(t, s, 0, none)
}

// Se3: as long as Next was not asked, there is no room, though all that is to be sent again came.
func TestAgainRoom(t *testing.T) {
	s := begun(3)
	give(t, s, named("a", 1), 0, publish(named("a", 1), 1, 1, false))
	back(s, 3)
	ack(t, s, api.Puback, 1, 0, api.OutDone)
	counts(t, s, 0, 0, 0)
	next(t, s, 0, none)
	counts(t, s, 0, 0, 3)
}

// Se4: no more are in transit than the client takes, and what waits is sent in its order, each once.
func TestOrder(t *testing.T) {
	rnd := rand.New(rand.NewSource(30))
	for range 300 {
		s := session.New("c", api.Config{Queue: 6})
		receive, pushed, came, heard := 0, 0, 0, map[int]int{} // of those that the client heard of on this connection, their states
		for range 120 {
			switch rnd.Intn(6) {
			case 0:
				if rnd.Intn(6) == 0 {
					receive, heard = 1+rnd.Intn(4), map[int]int{}
					back(s, receive)
				}
			case 1, 2:
				m := api.Msg{Topic: fmt.Sprint(pushed + 1), Qos: 1 + rnd.Intn(2)}
				if s.Push(m) {
					pushed++
				}
			case 3, 4:
				p, ok := s.Next(0)
				if !ok {
					break
				}
				if heard[p.Id] != 0 && p.Kind == api.Publish {
					t.Fatalf("%d is sent while it is in transit", p.Id)
				}
				heard[p.Id] = max(1, p.Qos)
				if p.Kind == api.Pubrel {
					heard[p.Id] = 3
				}
				if p.Kind == api.Publish && !p.Dup {
					if came++; p.Topic != fmt.Sprint(came) {
						t.Fatalf("%s is sent, not %d", p.Topic, came)
					}
				}
				if len(heard) > receive {
					t.Fatalf("%d are in transit, of %d", len(heard), receive)
				}
			default:
				for id, state := range heard {
					if result, _ := s.Ack(api.Packet{Kind: []int{api.Puback, api.Pubrec, api.Pubcomp}[state-1], Id: id}); result == api.OutRel {
						heard[id] = 3
					} else if result == api.OutNone || result == api.OutWrong {
						t.Fatalf("%d in state %d: %d", id, state, result)
					} else {
						delete(heard, id)
					}
					break
				}
			}
		}
		if n := len(s.Waiting()); came+n != pushed {
			t.Fatalf("of %d, %d were sent and %d wait", pushed, came, n)
		}
	}
}
