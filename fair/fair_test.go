package fair_test

import (
	"fmt"
	"math"
	"math/rand"
	"strings"
	"testing"

	"towncrier/api"
	"towncrier/fair"
	"towncrier/packet"
	"towncrier/terms"
	"towncrier/world"
)

// bytes are those of packets.
func bytes(l ...api.Packet) string {
	s := ""
	for _, p := range l {
		one, err := packet.Encode(p)
		if err != nil {
			panic(fmt.Sprint(p, err))
		}
		s += one
	}
	return s
}

// feed is that packets come in.
func feed(k int, l ...api.Packet) api.Event {
	return api.Event{Kind: api.EvFeed, Conn: k, Bytes: bytes(l...)}
}

// connect is a Connect of a session that outlives its connection.
func connect(client string, props ...api.Prop) api.Packet {
	return api.Packet{Kind: api.Connect, Client: client, Props: append(props, api.Prop{Id: 17, N: 100})}
}

// subscribe is a Subscribe of a filter.
func subscribe(qos int, filter string) api.Packet {
	return api.Packet{Kind: api.Subscribe, Id: 1, Subs: []api.Sub{{Filter: filter, Qos: qos}}}
}

// publish is a Publish of the topic t.
func publish(payload string, qos, id int) api.Packet {
	return api.Packet{Kind: api.Publish, Topic: "t", Payload: payload, Qos: qos, Id: id}
}

// with is a world in which events happened.
func with(t *testing.T, c api.Config, l ...api.Event) *world.World {
	t.Helper()
	w, err := world.Run(c, l)
	if err != nil {
		t.Fatal(err)
	}
	return w
}

// joined are connections that are opened, each with a client.
func joined(l ...api.Packet) []api.Event {
	var events []api.Event
	for k, p := range l {
		events = append(events, api.Event{Kind: api.EvOpen, Conn: k}, feed(k, p))
	}
	return events
}

// is fails the test unless a world has this bound, and is at rest or not.
func is(t *testing.T, what string, w *world.World, bound int, rest bool) {
	t.Helper()
	if n := fair.Bound(w); n != bound || fair.Rest(w) != rest {
		t.Errorf("%s: Bound = %d, Rest = %v; want %d, %v", what, n, fair.Rest(w), bound, rest)
	}
}

// steps are the entries of a log as a text: kinds, connections, and the kinds and numbers of packets.
func steps(l []api.Trace) string {
	names := strings.Fields("none open in out close sync tick crash")
	s := ""
	for _, x := range l {
		s += fmt.Sprint(" ", names[x.Kind], x.Conn)
		ps, _ := packet.All(x.Bytes, 1<<20)
		for _, p := range ps {
			s += fmt.Sprint(":", p.Kind, "#", p.Id)
		}
	}
	return strings.TrimSpace(s)
}

// Fi1: in a round all is drained and acknowledged, connection by connection, and the journal is made sure.
func TestRound(t *testing.T) {
	c := terms.Usual()
	l := joined(connect("a"), connect("b"), connect("c"))
	l = append(l, feed(0, subscribe(1, "t")), feed(1, subscribe(2, "t")), api.Event{Kind: api.EvOpen, Conn: 5}, feed(2, publish("x", 2, 1)))
	w := with(t, c, l...)
	is(t, "before", w, 6, false)
	before := len(w.Log())
	fair.Round(w)
	if s := steps(w.Log()[before:]); s != "in1:4#1 in2:5#1 out2:6#1 sync0" {
		t.Errorf("in the first round: %s", s)
	}
	if w.Broker().Out(0) != "" || w.Broker().Out(1) == "" || w.Broker().Out(2) != "" {
		t.Error("not all is drained")
	}
	is(t, "behind a round", w, 4, false)
	before = len(w.Log())
	fair.Round(w)
	if s := steps(w.Log()[before:]); s != "in2:7#1 sync0" {
		t.Errorf("in the second round: %s", s)
	}
	is(t, "behind two", w, 2, true)
}

// Fi1: what comes while a round goes by is for the next one, and what ends a connection ends its part.
func TestRoundTakesWhatWasThere(t *testing.T) {
	l := joined(connect("a", api.Prop{Id: 33, N: 1}), connect("b"))
	l = append(l, feed(0, subscribe(1, "t")), feed(1, publish("x", 1, 1), publish("y", 1, 2), publish("z", 0, 0)))
	w := with(t, terms.Usual(), l...)
	is(t, "before", w, 8, false)
	fair.Round(w)
	is(t, "behind a round", w, 4, false)
	// Bytes that are no packet end the connection of the client.
	w.Step(api.Event{Kind: api.EvFeed, Conn: 0, Bytes: "\x00"})
	before := len(w.Log())
	fair.Round(w)
	if s := steps(w.Log()[before:]); s != "sync0" {
		t.Errorf("without a client: %s", s)
	}
	is(t, "without the client", w, 2, true)
	l = append(joined(connect("a"), connect("b")), feed(0, subscribe(1, "t")), feed(1, publish("x", 1, 1), publish("y", 1, 2)), api.Event{Kind: api.EvFeed, Conn: 0, Bytes: "\x62\x02\x00"})
	w = with(t, terms.Usual(), l...)
	before = len(w.Log())
	fair.Round(w)
	// The first byte of the acknowledgement is the last one of a Pubrel, and what follows is no packet.
	if s := steps(w.Log()[before:]); s != "in1:4#1 out1:7#64:14#0 close1 sync0" {
		t.Errorf("behind a part of a packet: %s", s)
	}
}

// Fi1: the journal is made sure last, and then groups go on.
func TestGroups(t *testing.T) {
	l := joined(connect("a"), connect("b"))
	l = append(l, feed(0, subscribe(1, "$share/g/t")), feed(1, publish("x", 1, 1)))
	w := with(t, terms.Usual(), l...)
	is(t, "before", w, 6, false)
	before := len(w.Log())
	fair.Round(w)
	if s := steps(w.Log()[before:]); s != "in1:4#1 sync0 out2:4#1" || w.Broker().Waits() {
		t.Errorf("in the first round: %s", s)
	}
	is(t, "behind a round", w, 2, true)
	// Of a group, all messages count, but they disturb the rest only if a member is here.
	w.Step(feed(0, publish("x", 1, 1), publish("y", 1, 2)))
	is(t, "in transit", w, 10, false)
	w.Step(api.Event{Kind: api.EvDrop})
	is(t, "without the member", w, 6, true)
	w.Step(feed(1, publish("z", 0, 0), subscribe(1, "$share/x-g/t"), publish("z", 1, 5)))
	is(t, "with another group", w, 14, false)
}

// Fi1: what waits for those who are not here does not count.
func TestPresent(t *testing.T) {
	l := joined(connect("a"), connect("b"))
	l = append(l, feed(0, subscribe(1, "t")), feed(1, publish("x", 1, 1)), api.Event{Kind: api.EvDrop}, feed(1, publish("y", 1, 1)))
	w := with(t, terms.Usual(), l...)
	is(t, "a is not here", w, 2, true)
	w.Step(api.Event{Kind: api.EvOpen, Conn: 3})
	is(t, "a is not here", w, 2, true)
	w.Step(feed(3, connect("a", api.Prop{Id: 33, N: 1})))
	is(t, "a is here", w, 6, false)
	fair.Drive(w, 1)
	is(t, "a is here", w, 4, false)
	fair.Drive(w, 1)
	is(t, "a is here", w, 2, true)
}

// Fi1: what waits for a client, or in a group, is enough to disturb the rest.
func TestWaiting(t *testing.T) {
	c := terms.Usual()
	c.Out = 64
	for _, filter := range []string{"t", "$share/g/t"} {
		l := append(joined(connect("a"), connect("b")), feed(0, subscribe(1, filter), api.Packet{Kind: api.Subscribe, Id: 1, Subs: make([]api.Sub, 32)}, api.Packet{Kind: api.Subscribe, Id: 1, Subs: make([]api.Sub, 32)}))
		w := with(t, c, append(l, feed(1, publish("x", 0, 0)))...)
		is(t, filter+": full", w, 4, false)
		if n := len(w.Broker().Flights("a")); n > 0 {
			t.Errorf("%s: %d are in transit", filter, n)
		}
		w.Step(api.Event{Kind: api.EvDrain, N: 1 << 20})
		is(t, filter+": not full", w, 2, true)
		w.Step(feed(1, publish("x", 1, 1)))
		w.Step(api.Event{Kind: api.EvSync})
		w.Step(api.Event{Kind: api.EvDrop})
		is(t, filter+": gone", w, map[string]int{"t": 2, "$share/g/t": 4}[filter], true)
	}
}

// Fi1: so many rounds go by, but not more than 2^16.
func TestDrive(t *testing.T) {
	for rounds, want := range map[int]int{0: 0, -1: 0, math.MinInt: 0, 1: 1, 3: 3, 1 << 16: 1 << 16, 1<<16 + 1: 1 << 16, math.MaxInt: 1 << 16} {
		w := with(t, terms.Usual())
		if fair.Drive(w, rounds); len(w.Log()) != want {
			t.Errorf("Drive(%d) lets %d rounds go by", rounds, len(w.Log()))
		}
	}
}

// Fi1: if nothing happened there is rest, and so there is without a world; the chapter's example is the first one.
func TestNothing(t *testing.T) {
	is(t, "nothing happened", with(t, terms.Usual()), 2, true)
	fair.Round(nil)
	fair.Drive(nil, 5)
	is(t, "no world", nil, 0, true)
	var zero world.World
	fair.Drive(&zero, 5)
	if len(zero.Log()) > 0 || !fair.Rest(&zero) {
		t.Error("a zero world is not at rest")
	}
}

// some is any event, of which what arrives are whole packets, of clients that take packets of any length.
func some(rnd *rand.Rand, w *world.World) api.Event {
	of := func(l ...string) string { return l[rnd.Intn(len(l))] }
	k, id, qos := rnd.Intn(4), 1+rnd.Intn(9), rnd.Intn(3)
	switch n := rnd.Intn(24); {
	case n < 2:
		return api.Event{Kind: api.EvOpen, Conn: k}
	case n == 2 && rnd.Intn(3) == 0:
		return api.Event{Kind: api.EvDrop, Conn: k}
	case n == 3:
		return api.Event{Kind: api.EvDrain, Conn: k, N: rnd.Intn(100)}
	case n == 4:
		return api.Event{Kind: api.EvTick}
	case n == 5:
		return api.Event{Kind: api.EvSync}
	case n == 6 && rnd.Intn(9) == 0:
		return api.Event{Kind: api.EvCrash, N: rnd.Intn(100)}
	}
	client := w.Broker().Client(k)
	if client == "" {
		return feed(k, connect(of("a", "b", "c"), api.Prop{Id: 33, N: 1 + rnd.Intn(3)}))
	}
	switch rnd.Intn(6) {
	case 0, 1:
		return feed(k, subscribe(qos, of("t", "#", "$share/g/t", "$share/h-g/#", "$share/l-g/#", "$share/x-g/t", "$share/s-g/+")))
	case 2:
		if l := w.Broker().Flights(client); len(l) > 0 {
			f := l[rnd.Intn(len(l))]
			return feed(k, api.Packet{Kind: []int{api.Puback, api.Pubrec, api.Pubcomp}[f.State-1], Id: f.Id, Reason: rnd.Intn(3) / 2 * 0x80 * (1 - f.State/3)})
		}
	case 3:
		return feed(k, api.Packet{Kind: api.Pubrel, Id: id})
	}
	p := publish(strings.Repeat("x", rnd.Intn(30)), qos, id)
	p.Topic = of("t", "u", "t/u", "v", "w")
	if qos == 0 {
		p.Id = 0
	}
	return feed(k, p)
}

// Fi2: after as many rounds as Bound returned, there is rest.
func TestRest(t *testing.T) {
	c := terms.Usual()
	c.Conns, c.Clients, c.Queue, c.Group, c.Out = 4, 3, 20, 20, 64
	busy := 0
	for seed := range 500 {
		rnd := rand.New(rand.NewSource(int64(seed)))
		w := with(t, c)
		for range 20 + rnd.Intn(100) {
			w.Step(some(rnd, w))
		}
		if !fair.Rest(w) {
			busy++
		}
		n := fair.Bound(w)
		fair.Drive(w, n)
		if !fair.Rest(w) {
			b := w.Broker()
			for _, key := range b.Keys() {
				t.Logf("%s: %+v, %+v", key, b.Items(key), b.Members(key))
			}
			for _, client := range b.Clients() {
				t.Logf("%s: %+v, %+v", client, b.Waiting(client), b.Flights(client))
			}
			t.Fatalf("seed %d: there is no rest after %d rounds", seed, n)
		}
	}
	if busy < 200 {
		t.Errorf("only %d worlds had something to do", busy)
	}
}
