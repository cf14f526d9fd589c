package outq_test

import (
	"fmt"
	"math"
	"math/rand"
	"testing"

	"towncrier/api"
	"towncrier/outq"
)

// same tells whether two values are the same; nil and the empty list are.
func same[T any](a, b T) bool {
	return fmt.Sprintf("%+v", a) == fmt.Sprintf("%+v", b)
}

// named is a message that has all its fields.
func named(topic, group string) api.Msg {
	return api.Msg{Topic: topic, Payload: "p" + topic, Qos: 1, Retain: true, Props: []api.Prop{{Id: 3, S: topic}}, From: "f", Until: 7, Seq: 5, Group: group}
}

// send fails the test unless a message is sent with this number, 0 for none.
func send(t *testing.T, o *outq.Out, m api.Msg, qos, want int) {
	t.Helper()
	if id, ok := o.Send(m, qos); id != want || ok != (want > 0) {
		t.Errorf("Send(%v, %d) = %d, %v; want %d", m, qos, id, ok, want)
	}
}

// ack fails the test unless this becomes of a packet, and of this message.
func ack(t *testing.T, o *outq.Out, kind, id, reason, want int, m api.Msg) {
	t.Helper()
	if got, of := o.Ack(api.Packet{Kind: kind, Id: id, Reason: reason}); got != want || !same(of, m) {
		t.Errorf("Ack of kind %d, number %d, reason %#x = %d, %+v; want %d, %+v", kind, id, reason, got, of, want, m)
	}
}

// has fails the test unless just these are under way, in this order.
func has(t *testing.T, o *outq.Out, l ...api.Flight) {
	t.Helper()
	if all := o.All(); !same(all, l) || o.Len() != len(l) {
		t.Errorf("All() = %+v, Len() = %d; want %+v", all, o.Len(), l)
	}
	var again []api.Packet
	for _, f := range l {
		if f.State == 3 {
			again = append(again, api.Packet{Kind: api.Pubrel, Id: f.Id})
		} else {
			m := f.Msg
			again = append(again, api.Packet{Kind: api.Publish, Id: f.Id, Qos: f.State, Dup: true, Topic: m.Topic, Payload: m.Payload, Retain: m.Retain, Props: m.Props})
		}
	}
	if got := o.Again(); !same(got, again) {
		t.Errorf("Again() = %+v, want %+v", got, again)
	}
}

// none is no message.
var none api.Msg

// Ou1: what is sent is in transit, behind all others, with the next number.
func TestSend(t *testing.T) {
	o := outq.New()
	has(t, o)
	a, b, c := named("a", ""), named("b", "g/b"), api.Msg{}
	send(t, o, a, 1, 1)
	has(t, o, api.Flight{Id: 1, State: 1, Msg: a})
	send(t, o, b, 2, 2)
	send(t, o, c, 2, 3)
	send(t, o, a, 1, 4)
	has(t, o, api.Flight{Id: 1, State: 1, Msg: a}, api.Flight{Id: 2, State: 2, Msg: b}, api.Flight{Id: 3, State: 2, Msg: c}, api.Flight{Id: 4, State: 1, Msg: a})
	ack(t, o, api.Puback, 1, 0, api.OutDone, a)
	send(t, o, c, 1, 5)
	has(t, o, api.Flight{Id: 2, State: 2, Msg: b}, api.Flight{Id: 3, State: 2, Msg: c}, api.Flight{Id: 4, State: 1, Msg: a}, api.Flight{Id: 5, State: 1, Msg: c})
}

// Ou1: with a QoS that is neither 1 nor 2 nothing is sent.
func TestSendRefuses(t *testing.T) {
	o := outq.New()
	for _, qos := range []int{0, 3, -1, math.MinInt, math.MaxInt} {
		send(t, o, named("a", ""), qos, 0)
	}
	has(t, o)
	send(t, o, named("a", ""), 2, 1)
}

// Ou1: when all numbers are in use, nothing is sent; the number that is free then is the next one.
func TestSendAll(t *testing.T) {
	o := outq.New()
	for id := 1; id <= 65535; id++ {
		if got, ok := o.Send(api.Msg{Seq: id}, 1+id%2); got != id || !ok {
			t.Fatalf("Send = %d, %v; want %d", got, ok, id)
		}
	}
	send(t, o, none, 1, 0)
	send(t, o, none, 2, 0)
	ack(t, o, api.Puback, 700, 0, api.OutDone, api.Msg{Seq: 700})
	ack(t, o, api.Puback, 500, 0, api.OutDone, api.Msg{Seq: 500})
	send(t, o, api.Msg{Seq: 1 << 20}, 1, 500)
	if l := o.All(); len(l) != 65534 || o.Len() != 65534 || l[0].Id != 1 || l[len(l)-1].Id != 500 {
		t.Errorf("%d are under way", len(l))
	}
	for id := 65535; id > 0; id-- {
		if id != 700 {
			o.Ack(api.Packet{Kind: api.Puback, Id: id, Reason: 0x80})
			o.Ack(api.Packet{Kind: api.Pubrec, Id: id, Reason: 0x80})
		}
	}
	has(t, o)
}

// Ou1: a message as a Publish, whatever is passed.
func TestPacket(t *testing.T) {
	m := named("a", "g/a")
	for _, x := range []struct {
		qos, id int
		dup     bool
	}{{0, 0, false}, {1, 7, true}, {2, 65535, false}, {0, 9, true}, {-1, -2, false}, {9, 1 << 40, true}} {
		want := api.Packet{Kind: api.Publish, Id: x.id, Topic: "a", Payload: "pa", Qos: x.qos, Retain: true, Dup: x.dup, Props: m.Props}
		if p := outq.Packet(m, x.qos, x.id, x.dup); !same(p, want) {
			t.Errorf("Packet = %+v, want %+v", p, want)
		}
	}
	if p := outq.Packet(none, 0, 0, false); !same(p, api.Packet{Kind: api.Publish}) {
		t.Errorf("Packet of nothing = %+v", p)
	}
}

// Ou2: acknowledgements of QoS 1.
func TestPuback(t *testing.T) {
	a, b := named("a", ""), named("b", "g/b")
	for reason, want := range map[int]int{0: api.OutDone, 0x10: api.OutDone, 0x7f: api.OutDone, 0x80: api.OutBack, 0x97: api.OutBack, 0xff: api.OutBack, 0x100: api.OutDone, -1: api.OutDone} {
		o := outq.New()
		send(t, o, a, 1, 1)
		send(t, o, b, 1, 2)
		ack(t, o, api.Puback, 2, reason, want, b)
		has(t, o, api.Flight{Id: 1, State: 1, Msg: a})
		ack(t, o, api.Puback, 2, reason, api.OutNone, none)
		ack(t, o, api.Puback, 1, reason, want, a)
		has(t, o)
	}
}

// Ou2: acknowledgements of QoS 2; the chapter's example is a Pubrec with 0x97.
func TestPubrec(t *testing.T) {
	a, b := named("a", ""), named("b", "g/b")
	o := outq.New()
	send(t, o, a, 2, 1)
	send(t, o, b, 2, 2)
	ack(t, o, api.Pubrec, 1, 0x97, api.OutBack, a)
	has(t, o, api.Flight{Id: 2, State: 2, Msg: b})
	ack(t, o, api.Pubrec, 1, 0, api.OutNone, none)
	ack(t, o, api.Pubrec, 2, 0x10, api.OutRel, b)
	has(t, o, api.Flight{Id: 2, State: 3, Msg: b})
	ack(t, o, api.Pubrec, 2, 0, api.OutWrong, none)
	ack(t, o, api.Pubrec, 2, 0x80, api.OutWrong, none)
	has(t, o, api.Flight{Id: 2, State: 3, Msg: b})
	ack(t, o, api.Pubcomp, 2, 0x92, api.OutEnd, b)
	ack(t, o, api.Pubcomp, 2, 0, api.OutNone, none)
	has(t, o)
	send(t, o, a, 2, 3)
}

// Ou2: in a state, only the packet that it awaits is right; other kinds never are.
func TestWrong(t *testing.T) {
	m := named("a", "")
	o := outq.New()
	send(t, o, m, 1, 1)
	send(t, o, m, 2, 2)
	send(t, o, m, 2, 3)
	ack(t, o, api.Pubrec, 3, 0, api.OutRel, m)
	right := map[int]int{1: api.Puback, 2: api.Pubrec, 3: api.Pubcomp}
	for id := -1; id < 6; id++ {
		for kind := -1; kind < 18; kind++ {
			for _, reason := range []int{0, 0x80} {
				switch {
				case kind != api.Puback && kind != api.Pubrec && kind != api.Pubcomp:
					ack(t, o, kind, id, reason, api.OutWrong, none)
				case right[id] == 0:
					ack(t, o, kind, id, reason, api.OutNone, none)
				case right[id] != kind:
					ack(t, o, kind, id, reason, api.OutWrong, none)
				}
			}
		}
	}
	has(t, o, api.Flight{Id: 1, State: 1, Msg: m}, api.Flight{Id: 2, State: 2, Msg: m}, api.Flight{Id: 3, State: 3, Msg: m})
}

// Ou2: the messages of groups go, but those that came already; their numbers are free.
func TestGroup(t *testing.T) {
	o := outq.New()
	a, b, c, d, e := named("a", "g/a"), named("b", ""), named("c", "g/c"), named("d", "h/d"), named("e", "")
	send(t, o, a, 2, 1)
	send(t, o, b, 1, 2)
	send(t, o, c, 2, 3)
	send(t, o, d, 1, 4)
	send(t, o, e, 2, 5)
	ack(t, o, api.Pubrec, 3, 0, api.OutRel, c)
	if l := o.Group(); !same(l, []api.Msg{a, d}) {
		t.Errorf("Group() = %+v", l)
	}
	has(t, o, api.Flight{Id: 2, State: 1, Msg: b}, api.Flight{Id: 3, State: 3, Msg: c}, api.Flight{Id: 5, State: 2, Msg: e})
	if l := o.Group(); len(l) > 0 {
		t.Errorf("Group() again = %+v", l)
	}
	ack(t, o, api.Pubrec, 1, 0, api.OutNone, none)
	for id := 6; id <= 65535; id++ {
		o.Send(none, 1)
	}
	send(t, o, a, 1, 1)
	send(t, o, a, 1, 4)
	send(t, o, a, 1, 0)
}

// Ou2: a zero object, and none at all.
func TestNothing(t *testing.T) {
	for _, o := range []*outq.Out{nil, {}} {
		send(t, o, named("a", "g"), 1, 0)
		send(t, o, named("a", "g"), 2, 0)
		for kind := range 17 {
			want := api.OutWrong
			if kind == api.Puback || kind == api.Pubrec || kind == api.Pubcomp {
				want = api.OutNone
			}
			ack(t, o, kind, 0, 0, want, none)
			ack(t, o, kind, 1, 0x80, want, none)
		}
		if l := o.Group(); len(l) > 0 {
			t.Errorf("Group() = %v", l)
		}
		has(t, o)
	}
}

// R3: lists are neither kept nor handed out.
func TestListsAreNew(t *testing.T) {
	o := outq.New()
	m := named("a", "")
	send(t, o, m, 2, 1)
	send(t, o, named("b", "g"), 1, 2)
	m.Props[0].S = "x"
	o.All()[0].Msg.Props[0].S = "x"
	o.Again()[0].Props[0].S = "x"
	p := outq.Packet(m, 0, 0, false)
	p.Props[0].S = "y"
	if m.Props[0].S != "x" {
		t.Error("the properties of the message are those of the packet")
	}
	_, of := o.Ack(api.Packet{Kind: api.Pubrec, Id: 1})
	of.Props[0].S = "x"
	has(t, o, api.Flight{Id: 1, State: 3, Msg: named("a", "")}, api.Flight{Id: 2, State: 1, Msg: named("b", "g")})
}

// Ou3: each message comes out once, or is under way, or was removed with its group.
func TestOnce(t *testing.T) {
	rnd := rand.New(rand.NewSource(24))
	for range 300 {
		o := outq.New()
		out, states := map[int]int{}, map[int]int{}
		sent := 0
		for range 80 {
			switch rnd.Intn(8) {
			case 0, 1, 2:
				sent++
				qos := 1 + rnd.Intn(2)
				send(t, o, api.Msg{Seq: sent, Group: []string{"", "", "", "g"}[rnd.Intn(4)]}, qos, sent)
				states[sent] = qos
			case 3:
				if rnd.Intn(5) == 0 {
					for _, m := range o.Group() {
						out[m.Seq]++
						delete(states, m.Seq)
					}
				}
			default:
				p := api.Packet{Kind: []int{api.Puback, api.Pubrec, api.Pubcomp}[rnd.Intn(3)], Id: 1 + rnd.Intn(sent+1), Reason: rnd.Intn(2) * 0x80}
				result, m := o.Ack(p)
				switch result {
				case api.OutDone, api.OutBack, api.OutEnd:
					out[m.Seq]++
					delete(states, m.Seq)
				case api.OutRel:
					states[m.Seq] = 3
				}
			}
		}
		last := 0
		for _, f := range o.All() {
			if states[f.Msg.Seq] != f.State || f.Id != f.Msg.Seq || f.Id <= last {
				t.Fatalf("%+v is under way, in state %d", f, states[f.Msg.Seq])
			}
			out[f.Msg.Seq]++
			last = f.Id
		}
		for seq := 1; seq <= sent; seq++ {
			if out[seq] != 1 {
				t.Fatalf("%d came out %d times", seq, out[seq])
			}
		}
	}
}
