package world_test

import (
	"fmt"
	"math"
	"math/rand"
	"strings"
	"testing"

	"towncrier/api"
	"towncrier/packet"
	"towncrier/terms"
	"towncrier/world"
)

// same tells whether two values are the same; nil and the empty list are.
func same[T any](a, b T) bool {
	return fmt.Sprintf("%+v", a) == fmt.Sprintf("%+v", b)
}

// bytes are those of packets.
func bytes(t *testing.T, l ...api.Packet) string {
	t.Helper()
	s := ""
	for _, p := range l {
		one, err := packet.Encode(p)
		if err != nil {
			t.Fatalf("%+v: %v", p, err)
		}
		s += one
	}
	return s
}

// connect is a Connect of a session that outlives its connection.
func connect(client string) api.Packet {
	return api.Packet{Kind: api.Connect, Client: client, Props: []api.Prop{{Id: 17, N: 100}}}
}

// subscribe is a Subscribe of a filter.
func subscribe(filter string) api.Packet {
	return api.Packet{Kind: api.Subscribe, Id: 1, Subs: []api.Sub{{Filter: filter, Qos: 1}}}
}

// publish is a Publish.
func publish(payload string, qos, id int) api.Packet {
	return api.Packet{Kind: api.Publish, Topic: "t", Payload: payload, Qos: qos, Id: id}
}

// fresh is a world of the usual bounds.
func fresh(t *testing.T) *world.World {
	t.Helper()
	w, err := world.New(terms.Usual())
	if err != nil {
		t.Fatal(err)
	}
	return w
}

// open is that a connection is opened, and feed that packets come in on it.
func open(k int) api.Event { return api.Event{Kind: api.EvOpen, Conn: k} }

// feed is the other one.
func feed(t *testing.T, k int, l ...api.Packet) api.Event {
	t.Helper()
	return api.Event{Kind: api.EvFeed, Conn: k, Bytes: bytes(t, l...)}
}

// of is an event of another kind.
func of(kind, k, n int) api.Event { return api.Event{Kind: kind, Conn: k, N: n} }

// traces are entries of a log as a text: their kinds, connections, and the kinds of their packets.
func traces(l []api.Trace) string {
	names := strings.Fields("none open in out close sync tick crash")
	var s []string
	for _, x := range l {
		one := names[x.Kind]
		if x.Conn > 0 {
			one += fmt.Sprint(x.Conn)
		}
		if x.Bytes != "" {
			ps, err := packet.All(x.Bytes, 1<<20)
			for _, p := range ps {
				one += fmt.Sprint(":", p.Kind)
			}
			if err != nil {
				one += ":" + err.Error()
			}
		}
		s = append(s, one)
	}
	return strings.Join(s, " ")
}

// logs fails the test unless an event lets these be told.
func logs(t *testing.T, w *world.World, e api.Event, want string) {
	t.Helper()
	before := len(w.Log())
	w.Step(e)
	if got := traces(w.Log()[before:]); got != want {
		t.Errorf("%+v lets be told %q, want %q", e, got, want)
	}
}

// Wo1: a world has a broker on an empty disk; it has none with bounds that are not valid.
func TestNew(t *testing.T) {
	w := fresh(t)
	if len(w.Log()) > 0 || w.Conns() != 0 || w.Broker() == nil || w.Broker().Now() != 0 || w.Broker().Waits() {
		t.Errorf("a new world has %+v", w.Log())
	}
	bad := terms.Usual()
	bad.Clients = 0
	for _, new := range []func() (*world.World, error){func() (*world.World, error) { return world.New(bad) }, func() (*world.World, error) { return world.Run(bad, []api.Event{open(0)}) }} {
		if w, err := new(); w != nil || err == nil || err.Error() != "no such thing, reason 131, at 8" {
			t.Errorf("%+v, %v", w, err)
		}
	}
}

// Wo1, Wo2: events let things happen, and are told.
func TestStep(t *testing.T) {
	w := fresh(t)
	logs(t, w, open(8), "")
	logs(t, w, open(3), "open1")
	logs(t, w, open(3), "")
	logs(t, w, open(1), "open2")
	logs(t, w, feed(t, 3), "")
	logs(t, w, feed(t, 3, connect("a"), subscribe("t")), "in1:1:8 out1:2:9")
	logs(t, w, feed(t, 1, connect("b"), publish("x", 1, 1), publish("y", 0, 0)), "in2:1:3:3 out2:2:4 out1:3:3")
	logs(t, w, of(api.EvTick, 5, 5), "tick")
	logs(t, w, of(api.EvSync, 5, 5), "sync")
	logs(t, w, of(api.EvDrain, 3, 1<<20), "")
	logs(t, w, of(api.EvDrain, 3, -1), "")
	logs(t, w, of(api.EvDrain, 99, 5), "")
	for _, kind := range []int{0, -1, 8, math.MaxInt} {
		logs(t, w, of(kind, 3, 5), "")
	}
	logs(t, w, api.Event{Kind: api.EvFeed, Conn: 9, Bytes: "\xc0\x00"}, "")
	logs(t, w, api.Event{Kind: api.EvFeed, Conn: 1, Bytes: "\xc0"}, "in2")
	logs(t, w, api.Event{Kind: api.EvFeed, Conn: 1, Bytes: "\x01"}, "in2:malformed, reason 129, at 0")
	if w.Conns() != 2 || w.Broker().Now() != 1 {
		t.Errorf("Conns() = %d, Now() = %d", w.Conns(), w.Broker().Now())
	}
}

// Wo2: a connection is told of until its end is told.
func TestEnds(t *testing.T) {
	w := fresh(t)
	logs(t, w, of(api.EvDrop, 0, 0), "")
	w.Step(open(0))
	logs(t, w, api.Event{Kind: api.EvFeed, Bytes: "\x00"}, "in1:malformed, reason 129, at 0 out1:2 close1")
	logs(t, w, api.Event{Kind: api.EvFeed, Bytes: "\x00"}, "")
	logs(t, w, of(api.EvDrop, 0, 0), "")
	// What an earlier connection left is gone when another one is opened.
	logs(t, w, open(0), "open2")
	logs(t, w, feed(t, 0, connect("a")), "in2:1 out2:2")
	w.Step(open(2))
	w.Step(open(1))
	logs(t, w, feed(t, 1, connect("a")), "in4:1 out2:14 close2 out4:2")
	logs(t, w, of(api.EvDrop, 1, 0), "close4")
	logs(t, w, feed(t, 2, api.Packet{Kind: api.Pingreq}), "in3:12 out3:2 close3")
	if w.Conns() != 4 {
		t.Errorf("Conns() = %d", w.Conns())
	}
}

// Wo2: what goes out when bytes are gone is told, and nothing of what was there.
func TestDrain(t *testing.T) {
	c := terms.Usual()
	c.Out = 64
	w, _ := world.Run(c, []api.Event{open(0), feed(t, 0, connect("a"), subscribe("t")), open(1), feed(t, 1, connect("b"))})
	for range 5 {
		w.Step(feed(t, 1, publish(strings.Repeat("x", 30), 0, 0)))
	}
	rest := len(w.Broker().Out(0))
	logs(t, w, of(api.EvDrain, 0, rest-64), "")
	logs(t, w, of(api.EvDrain, 0, 1), "out1:3")
	logs(t, w, of(api.EvDrain, 0, 1<<30), "out1:3:3")
	logs(t, w, of(api.EvDrain, 0, 1<<30), "")
}

// Wo1, Wo2: a crash closes all connections, keeps what is sure, and bytes of the rest, and the time; the chapter's example is the first of these.
func TestCrash(t *testing.T) {
	for keep, want := range map[int]int{0: 1, -1: 1, 10: 1, 1 << 20: 3, math.MaxInt: 3} {
		w, err := world.Run(terms.Usual(), []api.Event{of(api.EvTick, 0, 0), open(5), open(2), feed(t, 5, connect("a"), subscribe("$share/g/t")), feed(t, 2, connect("b"), publish("x", 1, 1)), of(api.EvSync, 0, 0), feed(t, 2, publish("y", 1, 2), publish("z", 1, 3))})
		if err != nil {
			t.Fatal(err)
		}
		logs(t, w, of(api.EvCrash, 0, keep), "crash close2 close1")
		b := w.Broker()
		l := b.Items("g/t")
		if len(l) != want || len(b.Clients()) > 0 || b.Now() != 1 || b.Waits() || len(b.Members("g/t")) > 0 {
			t.Errorf("with %d bytes there are %+v, and %q", keep, l, b.Clients())
		}
		for _, x := range l {
			if x.At != "" || !x.Again {
				t.Errorf("%+v", x)
			}
		}
		logs(t, w, open(5), "open3")
		logs(t, w, feed(t, 5, connect("c"), subscribe("$share/g/t")), "in3:1:8 out3:2:9"+strings.Repeat(":3", want))
	}
}

// Wo1: no world, and a zero one.
func TestNothing(t *testing.T) {
	for _, w := range []*world.World{nil, {}} {
		for kind := range 9 {
			w.Step(of(kind, 0, 0))
		}
		if len(w.Log()) > 0 || w.Broker() != nil || w.Conns() != 0 {
			t.Error("there is a world")
		}
	}
}

// R3: lists are not handed out.
func TestListsAreNew(t *testing.T) {
	w := fresh(t)
	w.Step(open(0))
	w.Log()[0].Kind = 9
	_ = append(w.Log(), api.Trace{Kind: 9})
	logs(t, w, open(1), "open2")
	if s := traces(w.Log()); s != "open1 open2" {
		t.Errorf("the log became %q", s)
	}
}

// seen are elements as a text.
func seen(l []api.Seen) string {
	s := ""
	for _, x := range l {
		switch {
		case x.Bad && x.In && x.P.Kind == 0:
			s += " bad"
		case x.In && !x.Bad:
			s += fmt.Sprint(" in", x.P.Kind)
		case !x.Bad && x.P.Kind > 0:
			s += fmt.Sprint(" out", x.P.Kind)
		case same(x, api.Seen{}):
			s += " end"
		default:
			s += fmt.Sprintf(" %+v", x)
		}
	}
	return strings.TrimSpace(s)
}

// Wo3: what is seen of a connection.
func TestSeen(t *testing.T) {
	c := terms.Usual()
	ping, pong := "\xc0\x00", "\xd0\x00"
	in, out := func(conn int, s string) api.Trace { return api.Trace{Kind: api.TrIn, Conn: conn, Bytes: s} }, func(conn int, s string) api.Trace { return api.Trace{Kind: api.TrOut, Conn: conn, Bytes: s} }
	shut := func(conn int) api.Trace { return api.Trace{Kind: api.TrClose, Conn: conn} }
	for _, x := range []struct {
		l    []api.Trace
		want string
	}{
		{nil, ""},
		{[]api.Trace{{Kind: api.TrOpen, Conn: 1}, {Kind: api.TrSync, Conn: 1}, {Kind: api.TrTick, Conn: 1}, {Kind: api.TrCrash, Conn: 1}, {Kind: 0, Conn: 1, Bytes: ping}, {Kind: 9, Conn: 1, Bytes: ping}}, ""},
		{[]api.Trace{in(1, ping+ping), in(2, ping), out(1, pong+pong), out(3, pong), shut(2), shut(1)}, "in12 in12 out13 out13 end"},
		{[]api.Trace{in(1, ping[:1]), in(2, "\x00"), out(1, pong), in(1, ping[1:]+ping[:1]), in(1, ping[1:])}, "out13 in12 in12"},
		{[]api.Trace{in(1, ping+"\xc0\x01\x00"+ping), in(1, ping), out(1, pong), in(1, "\x00"), shut(1)}, "in12 bad out13 end"},
		{[]api.Trace{in(1, "\x30\x80\x80"), in(1, "\x80\x80"), in(1, ping)}, "bad"},
		{[]api.Trace{in(1, "\x30\xfd\x07"+strings.Repeat("\x00", 1021)), in(1, ping)}, "in3 in12"},
		{[]api.Trace{in(1, "\x30\xfe\x07")}, "bad"},
		{[]api.Trace{shut(1), in(1, ping), out(1, pong)}, "end in12 out13"},
		{[]api.Trace{out(1, "\x30\xfe\x07"+strings.Repeat("\x00", 1022)), out(1, pong+pong[:1]), out(1, pong+"\x00\x00"), out(1, pong)}, "out3 out13 out13 out13"},
	} {
		if got := seen(world.Seen(c, x.l, 1)); got != x.want {
			t.Errorf("Seen(%+v) = %q, want %q", x.l, got, x.want)
		}
	}
	if l := world.Seen(c, []api.Trace{in(1, ping)}, 0); len(l) > 0 {
		t.Errorf("Seen of none = %+v", l)
	}
	if l := world.Seen(api.Config{}, []api.Trace{in(1, ping)}, 1); seen(l) != "bad" {
		t.Errorf("Seen without bounds = %+v", l)
	}
	if l := world.Seen(c, []api.Trace{in(1, bytes(t, publish("x", 1, 7)))}, 1); len(l) != 1 || !same(l[0], api.Seen{In: true, P: publish("x", 1, 7)}) {
		t.Errorf("Seen of a Publish = %+v", l)
	}
}

// Wo4: what was sent on a connection is what was drained of it, and what remains; what goes out at once are whole packets.
func TestWhatWasSent(t *testing.T) {
	rnd := rand.New(rand.NewSource(39))
	total := 0
	for range 150 {
		c := terms.Usual()
		c.Conns, c.Out, c.Group = 3, 100, 4
		w, _ := world.New(c)
		drained, ordinals, sent := map[int]string{}, map[int]int{}, map[int]string{}
		told := 0
		for range 100 {
			k := rnd.Intn(3)
			e := []api.Event{of(api.EvTick, 0, 0), of(api.EvSync, 0, 0), open(k), of(api.EvDrop, k, 0), of(api.EvDrain, k, rnd.Intn(60)), of(api.EvDrain, k, rnd.Intn(60))}[min(rnd.Intn(7), 5)]
			if rnd.Intn(2) > 0 {
				client := w.Broker().Client(k)
				switch {
				case client == "":
					e = feed(t, k, connect(fmt.Sprint("c", rnd.Intn(3))))
				case rnd.Intn(3) == 0:
					e = feed(t, k, subscribe([]string{"t", "$share/g/t"}[rnd.Intn(2)]))
				default:
					e = feed(t, k, publish(strings.Repeat("x", rnd.Intn(20)), 0, 0), api.Packet{Kind: api.Pingreq})
				}
			}
			before := w.Broker().Out(k)
			if w.Step(e); e.Kind == api.EvDrain {
				drained[ordinals[k]] += before[:min(e.N, len(before))]
			}
			l := w.Log()
			for _, x := range l[told:] {
				switch x.Kind {
				case api.TrOpen:
					ordinals[e.Conn] = x.Conn
				case api.TrOut:
					sent[x.Conn] += x.Bytes
					if ps, err := packet.All(x.Bytes, len(x.Bytes)); err != nil || bytes(t, ps...) != x.Bytes {
						t.Fatalf("% x went out: %v", x.Bytes, err)
					}
				}
			}
			told = len(l)
			for k, n := range ordinals {
				if sent[n] != drained[n]+w.Broker().Out(k) {
					t.Fatalf("% x was sent, % x was drained, % x remains", sent[n], drained[n], w.Broker().Out(k))
				}
			}
		}
		for _, s := range sent {
			total += len(s)
		}
	}
	if total < 10000 {
		t.Errorf("in all %d bytes were sent", total)
	}
}
