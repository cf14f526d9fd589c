package ledger_test

import (
	"fmt"
	"math/rand"
	"slices"
	"testing"

	"towncrier/api"
	"towncrier/ledger"
	"towncrier/packet"
	"towncrier/terms"
	"towncrier/world"
)

// traces are those of a connection: packets that come in or go out, told by their direction.
type traces struct {
	t *testing.T
	l []api.Trace
}

// bytes are those of packets.
func bytes(t *testing.T, l ...api.Packet) string {
	t.Helper()
	s := ""
	for _, p := range l {
		one, err := packet.Encode(p)
		if err != nil {
			t.Fatalf("%+v: %v", p, err)
		}
		s += one
	}
	return s
}

// add adds packets in one direction.
func (x *traces) add(in bool, l ...api.Packet) {
	x.t.Helper()
	kind := api.TrOut
	if in {
		kind = api.TrIn
	}
	x.l = append(x.l, api.Trace{Kind: kind, Conn: 7, Bytes: bytes(x.t, l...)})
}

// publish is a Publish of the topic t.
func publish(payload string, qos, id int) api.Packet {
	return api.Packet{Kind: api.Publish, Topic: "t", Payload: payload, Qos: qos, Id: id}
}

// ack is a Puback, or a Pubrec.
func ack(kind, id, reason int) api.Packet {
	return api.Packet{Kind: kind, Id: id, Reason: reason}
}

// sent is what is told of such a Publish.
func sent(payload string, qos, id int, answer ...int) api.Sent {
	s := api.Sent{Conn: 7, Id: id, Qos: qos, Topic: "t", Payload: payload}
	if len(answer) > 0 {
		s.Answered, s.Reason = true, answer[0]
	}
	return s
}

// tells fails the test unless these messages came in; and unless they went out when all that came in went out, and the other way around.
func tells(t *testing.T, change func(x *traces, in bool), want ...api.Sent) {
	t.Helper()
	for _, in := range []bool{true, false} {
		x := &traces{t: t, l: []api.Trace{{Kind: api.TrOpen, Conn: 7}, {Kind: api.TrTick}, {Kind: api.TrIn, Conn: 8, Bytes: bytes(t, publish("other", 1, 1))}, {Kind: api.TrOut, Conn: 8, Bytes: bytes(t, ack(api.Puback, 1, 0))}}}
		change(x, in)
		got, none := ledger.Came(terms.Usual(), x.l, 7), ledger.Went(terms.Usual(), x.l, 7)
		if !in {
			got, none = none, got
		}
		if !slices.Equal(got, want) || len(none) > 0 {
			t.Errorf("came in: %v: %+v, and the other way around %+v; want %+v", in, got, none, want)
		}
	}
}

// Le1: messages, and their first answers.
func TestAnswers(t *testing.T) {
	tells(t, func(x *traces, in bool) {})
	tells(t, func(x *traces, in bool) {
		x.add(in, publish("a", 0, 0), publish("b", 1, 5), publish("c", 2, 6), publish("d", 1, 7))
		x.add(!in, ack(api.Puback, 5, 0), ack(api.Pubrec, 6, 0x97), ack(api.Pubrec, 6, 0))
	}, sent("a", 0, 0), sent("b", 1, 5, 0), sent("c", 2, 6, 0x97), sent("d", 1, 7))
	// Neither of another QoS, nor of another number, nor ahead of it.
	tells(t, func(x *traces, in bool) {
		x.add(!in, ack(api.Puback, 5, 0), ack(api.Pubrec, 6, 0))
		x.add(in, publish("a", 1, 5), publish("b", 2, 6))
		x.add(!in, ack(api.Pubrec, 5, 0), ack(api.Puback, 6, 0), ack(api.Puback, 7, 0), ack(api.Pubrel, 6, 0), ack(api.Pubcomp, 6, 0))
	}, sent("a", 1, 5), sent("b", 2, 6))
	// Nor in its own direction.
	tells(t, func(x *traces, in bool) {
		x.add(in, publish("a", 1, 5), ack(api.Puback, 5, 0))
	}, sent("a", 1, 5))
}

// Le1: an answer is that of the first message that has none; the chapter's example is a Puback after two of the same number.
func TestSameNumber(t *testing.T) {
	tells(t, func(x *traces, in bool) {
		x.add(in, publish("a", 1, 5), publish("b", 1, 5), publish("c", 2, 5), publish("d", 2, 5), publish("e", 1, 5))
		x.add(!in, ack(api.Puback, 5, 0x10))
	}, sent("a", 1, 5, 0x10), sent("b", 1, 5), sent("c", 2, 5), sent("d", 2, 5), sent("e", 1, 5))
	tells(t, func(x *traces, in bool) {
		x.add(in, publish("a", 1, 5), publish("b", 1, 5), publish("c", 2, 5), publish("d", 2, 5))
		x.add(!in, ack(api.Pubrec, 5, 0x80), ack(api.Puback, 5, 0x97), ack(api.Puback, 5, 0))
		x.add(in, publish("e", 1, 5))
		x.add(!in, ack(api.Puback, 5, 0x10), ack(api.Pubrec, 5, 0))
	}, sent("a", 1, 5, 0x97), sent("b", 1, 5, 0), sent("c", 2, 5, 0x80), sent("d", 2, 5, 0), sent("e", 1, 5, 0x10))
}

// Le1: a message that is sent again is told as such, and behind bytes that are no packet nothing came in.
func TestDupAndBad(t *testing.T) {
	again := publish("a", 1, 5)
	again.Dup = true
	dup := sent("a", 1, 5)
	dup.Dup = true
	tells(t, func(x *traces, in bool) {
		x.add(in, again)
	}, dup)
	l := []api.Trace{{Kind: api.TrIn, Conn: 1, Bytes: bytes(t, publish("a", 1, 5)) + "\x00" + bytes(t, publish("b", 1, 6))}, {Kind: api.TrIn, Conn: 1, Bytes: bytes(t, publish("c", 1, 7))}, {Kind: api.TrOut, Conn: 1, Bytes: bytes(t, ack(api.Puback, 5, 0))}}
	if got := ledger.Came(terms.Usual(), l, 1); len(got) != 1 || got[0].Payload != "a" || !got[0].Answered || got[0].Conn != 1 {
		t.Errorf("Came = %+v", got)
	}
}

// Le1: topics are told by aliases, as many as the bounds have for what comes in, and 65535 for what goes out; those that are not told are empty.
func TestTopics(t *testing.T) {
	with := func(topic, payload string, n int) api.Packet {
		return api.Packet{Kind: api.Publish, Topic: topic, Payload: payload, Props: []api.Prop{{Id: 35, N: n}}}
	}
	s := bytes(t, publish("0", 0, 0), with("a", "1", 2), with("", "2", 2), with("b", "3", 2), with("", "4", 2), with("", "5", 1), api.Packet{Kind: api.Publish, Payload: "6"}, with("c", "7", 5), with("", "8", 5), with("", "9", 2), with("d", "10", 65535), with("", "11", 65535))
	for in, want := range map[int]string{api.TrIn: "0t 1a 2a 3b 4b 5 6 7 8 9b 10 11", api.TrOut: "0t 1a 2a 3b 4b 5 6 7c 8c 9b 10d 11d"} {
		l := []api.Trace{{Kind: in, Conn: 1, Bytes: s}}
		got := ""
		for _, x := range append(ledger.Came(terms.Usual(), l, 1), ledger.Went(terms.Usual(), l, 1)...) {
			got += " " + x.Payload + x.Topic
		}
		if got != " "+want {
			t.Errorf("%s, want %s", got, want)
		}
	}
}

// Le1: the connections of a log.
func TestConns(t *testing.T) {
	if l := ledger.Conns(nil); len(l) > 0 {
		t.Errorf("Conns of nothing = %v", l)
	}
	var l []api.Trace
	for _, n := range []int{9, 0, 2, -1, 2, 1 << 40, 9, 1} {
		l = append(l, api.Trace{Kind: n % 7, Conn: n})
	}
	if got := ledger.Conns(l); !slices.Equal(got, []int{1, 2, 9, 1 << 40}) || l[0].Conn != 9 {
		t.Errorf("Conns = %v", got)
	}
}

// Le2: the payloads of a topic, without those that are sent again.
func TestFirst(t *testing.T) {
	l := []api.Sent{{Topic: "t", Payload: "a"}, {Topic: "u", Payload: "b"}, {Topic: "t", Payload: "c", Dup: true}, {Topic: "t", Payload: "a", Answered: true}, {Payload: "d"}, {Topic: "t"}}
	for topic, want := range map[string][]string{"t": {"a", "a", ""}, "u": {"b"}, "": {"d"}, "v": nil} {
		if got := ledger.First(l, topic); !slices.Equal(got, want) {
			t.Errorf("First(%q) = %q, want %q", topic, got, want)
		}
	}
	if got := ledger.First(nil, ""); len(got) > 0 {
		t.Errorf("First of nothing = %q", got)
	}
}

// Le3: no message is answered twice, nor before it arrives: of a broker, each answer is that of one message.
func TestBroker(t *testing.T) {
	rnd := rand.New(rand.NewSource(41))
	for range 100 {
		c := terms.Usual()
		w, _ := world.New(c)
		w.Step(api.Event{Kind: api.EvOpen})
		w.Step(api.Event{Kind: api.EvFeed, Bytes: bytes(t, api.Packet{Kind: api.Connect, Client: "a"}, api.Packet{Kind: api.Subscribe, Id: 1, Subs: []api.Sub{{Filter: "$share/g/t", Qos: 2}}})})
		id := 0
		for range 60 {
			switch rnd.Intn(3) {
			case 0:
				w.Step(api.Event{Kind: api.EvSync})
			case 1:
				for _, f := range w.Broker().Flights("a") {
					w.Step(api.Event{Kind: api.EvFeed, Bytes: bytes(t, ack([]int{api.Puback, api.Pubrec, api.Pubcomp}[f.State-1], f.Id, 0))})
				}
			default:
				if len(w.Broker().Items("g/t")) < 4 && !w.Broker().Waits() {
					id++
					w.Step(api.Event{Kind: api.EvFeed, Bytes: bytes(t, publish(fmt.Sprint(id), 1, id))})
				}
			}
		}
		w.Step(api.Event{Kind: api.EvSync})
		came, went := ledger.Came(c, w.Log(), 1), ledger.Went(c, w.Log(), 1)
		if len(came) != id || len(went) != id {
			t.Fatalf("%d came, and %d went, of %d", len(came), len(went), id)
		}
		for i, x := range came {
			if !x.Answered || x.Reason != 0 || x.Payload != fmt.Sprint(i+1) || went[i].Payload != x.Payload {
				t.Fatalf("%+v came, and %+v went", x, went[i])
			}
		}
	}
}
