package broker_test

import (
	"fmt"
	"math"
	"slices"
	"strings"
	"testing"

	"towncrier/api"
	"towncrier/broker"
	"towncrier/disk"
	"towncrier/packet"
	"towncrier/terms"
)

// rig is a broker on its disk, in a test.
type rig struct {
	*broker.Broker
	t *testing.T
	d *disk.Disk
}

// with is a broker with the usual bounds, some of which are changed.
func with(t *testing.T, change func(c *api.Config)) *rig {
	t.Helper()
	c := terms.Usual()
	if change != nil {
		change(&c)
	}
	d := disk.New(c.Disk)
	b, err := broker.New(c, d, 0)
	if err != nil {
		t.Fatal(err)
	}
	return &rig{b, t, d}
}

// kinds are the names of the kinds of packets.
func kinds() []string {
	return strings.Fields("none connect connack publish puback pubrec pubrel pubcomp subscribe suback unsubscribe unsuback pingreq pingresp disconnect auth")
}

// show is a packet as a text.
func show(p api.Packet) string {
	s := kinds()[p.Kind]
	add := func(is bool, more ...any) {
		if is {
			s += " " + fmt.Sprint(more...)
		}
	}
	add(p.Id > 0, "#", p.Id)
	add(p.Kind == api.Publish, p.Topic, ":", p.Payload)
	add(p.Qos > 0, "q", p.Qos)
	add(p.Dup, "dup")
	add(p.Retain, "retain")
	add(p.Present, "present")
	add(p.Reason > 0, fmt.Sprintf("%#x", p.Reason))
	add(len(p.Codes) > 0, p.Codes)
	for _, x := range p.Props {
		add(true, x.Id, "=", x.N, x.S)
	}
	return s
}

// bytes are those of packets.
func (r *rig) bytes(l ...api.Packet) string {
	r.t.Helper()
	s := ""
	for _, p := range l {
		one, err := packet.Encode(p)
		if err != nil {
			r.t.Fatalf("%+v: %v", p, err)
		}
		s += one
	}
	return s
}

// in lets packets come in on a connection, all at once.
func (r *rig) in(k int, l ...api.Packet) {
	r.t.Helper()
	r.Feed(k, r.bytes(l...))
}

// gets fails the test unless just these packets are to go out on a connection; then they are gone.
func (r *rig) gets(k int, want ...string) {
	r.t.Helper()
	l, err := packet.All(r.Drain(k, math.MaxInt), 1<<28)
	var got []string
	for _, p := range l {
		got = append(got, show(p))
	}
	if !slices.Equal(got, want) || err != nil {
		r.t.Errorf("on %d goes out %q, %v; want %q", k, got, err, want)
	}
}

// connect is a Connect.
func connect(client string, clean bool, props ...api.Prop) api.Packet {
	return api.Packet{Kind: api.Connect, Client: client, Clean: clean, Props: props}
}

// lasting is a Connect of a session that outlives its connection.
func lasting(client string, props ...api.Prop) api.Packet {
	return connect(client, false, append(props, api.Prop{Id: 17, N: 100})...)
}

// join opens a connection, on which a Connect comes in, and what goes out is gone.
func (r *rig) join(k int, p api.Packet) {
	r.t.Helper()
	if !r.Open(k) {
		r.t.Fatalf("%d is open", k)
	}
	r.in(k, p)
	if !r.IsOpen(k) || r.Client(k) == "" {
		r.t.Fatalf("%+v: %q", p, r.Out(k))
	}
	r.Drain(k, math.MaxInt)
}

// clients joins clients whose sessions outlive their connections, on connections from 0 on.
func (r *rig) clients(l ...string) {
	r.t.Helper()
	for k, client := range l {
		r.join(k, lasting(client))
	}
}

// publish is a Publish; its number is 0 for QoS 0.
func publish(topic, payload string, qos, id int, props ...api.Prop) api.Packet {
	return api.Packet{Kind: api.Publish, Topic: topic, Payload: payload, Qos: qos, Id: id, Props: props}
}

// kept is a Publish that is retained.
func kept(topic, payload string, qos, id int, props ...api.Prop) api.Packet {
	p := publish(topic, payload, qos, id, props...)
	p.Retain = true
	return p
}

// subscribe is a Subscribe of filters with a QoS.
func subscribe(qos int, filters ...string) api.Packet {
	p := api.Packet{Kind: api.Subscribe, Id: 99}
	for _, s := range filters {
		p.Subs = append(p.Subs, api.Sub{Filter: s, Qos: qos})
	}
	return p
}

// subs lets a client subscribe, and the answer is gone.
func (r *rig) subs(k int, qos int, filters ...string) {
	r.t.Helper()
	r.in(k, subscribe(qos, filters...))
	want := r.bytes(api.Packet{Kind: api.Suback, Id: 99, Codes: slices.Repeat([]int{qos}, len(filters))})
	if s := r.Drain(k, len(want)); s != want {
		r.t.Errorf("the answer to %q is % x", filters, s)
	}
}

// ack is a packet of a kind, with a number and a reason.
func ack(kind, id, reason int) api.Packet {
	return api.Packet{Kind: kind, Id: id, Reason: reason}
}

// disconnect is a Disconnect.
func disconnect(reason int, props ...api.Prop) api.Packet {
	return api.Packet{Kind: api.Disconnect, Reason: reason, Props: props}
}

// willed is a Connect with a will.
func willed(client string, l api.Last, props ...api.Prop) api.Packet {
	p := connect(client, false, props...)
	l.Has = true
	p.Will = l
	return p
}

// topics are the topics and payloads of messages.
func topics(l []api.Msg) string {
	var s []string
	for _, m := range l {
		s = append(s, m.Topic+":"+m.Payload)
	}
	return strings.Join(s, " ")
}

// queue is that of a group: payloads, to whom they are in transit, and whether they may have been sent.
func (r *rig) queue(key string) string {
	var l []string
	for _, x := range r.Items(key) {
		s := x.Msg.Payload
		if x.At != "" {
			s += "@" + x.At
		}
		if x.Again {
			s += "*"
		}
		l = append(l, s)
	}
	return strings.Join(l, " ")
}

// is fails the test unless two values are the same.
func is[T comparable](t *testing.T, what string, got, want T) {
	t.Helper()
	if got != want {
		t.Errorf("%s: %v, want %v", what, got, want)
	}
}

// Br1: a broker has valid bounds, and a time.
func TestNew(t *testing.T) {
	bad := terms.Usual()
	bad.Out = 1
	if b, err := broker.New(bad, disk.New(9), 0); b != nil || err == nil || err.Error() != "no such thing, reason 131, at 6" {
		t.Errorf("New = %v, %v", b, err)
	}
	for now, want := range map[int]int{0: 0, 7: 7, -1: 0, math.MinInt: 0, 1 << 40: 1 << 40, 1<<40 + 1: 1 << 40, math.MaxInt: 1 << 40} {
		b, err := broker.New(terms.Usual(), disk.New(9), now)
		if err != nil || b.Now() != want {
			t.Errorf("New at %d: %v, %d", now, err, b.Now())
		}
		b.Tick()
		is(t, "a tick later", b.Now(), min(want+1, 1<<40))
	}
	b, err := broker.New(terms.Usual(), nil, 0)
	if err != nil || len(b.Clients()) > 0 || len(b.Keys()) > 0 || len(b.Retained("#")) > 0 || b.Waits() {
		t.Errorf("a new broker: %v", err)
	}
}

// Br1: connections have numbers, and are open or not.
func TestOpen(t *testing.T) {
	r := with(t, func(c *api.Config) { c.Conns = 2 })
	for _, k := range []int{-1, 2, math.MinInt, math.MaxInt} {
		if r.Open(k) || r.IsOpen(k) || r.Client(k) != "" || r.Out(k) != "" || r.Drain(k, 9) != "" {
			t.Errorf("there is a connection %d", k)
		}
		r.Feed(k, "\xc0\x00")
		r.Drop(k)
	}
	is(t, "open before", r.IsOpen(1), false)
	is(t, "Open(1)", r.Open(1), true)
	is(t, "Open(1) again", r.Open(1), false)
	is(t, "IsOpen(1)", r.IsOpen(1), true)
	is(t, "IsOpen(0)", r.IsOpen(0), false)
	r.in(1, lasting("a"), ack(api.Pingreq, 0, 0))
	is(t, "Client(1)", r.Client(1), "a")
	s := r.Out(1)
	is(t, "two bytes", r.Drain(1, 2), s[:2])
	r.Drop(1)
	is(t, "IsOpen(1)", r.IsOpen(1), false)
	is(t, "the rest", r.Out(1), s[2:])
	is(t, "two more", r.Drain(1, 2), s[2:4])
	r.Feed(1, "\xc0\x00")
	is(t, "the rest", r.Out(1), s[4:])
	is(t, "Open(1)", r.Open(1), true)
	if r.Out(1) != "" || r.Client(1) != "" || !r.IsOpen(1) || !slices.Equal(r.Clients(), []string{"a"}) {
		t.Errorf("a connection that was opened again: %q, %q", r.Out(1), r.Client(1))
	}
}

// Br1: however a connection ends, it has no client any more; its bytes and the session of the client stay.
func TestClientOfEnded(t *testing.T) {
	const told = "connack 33=8 39=1024 34=4"
	for name, x := range map[string]struct {
		ends func(r *rig)
		want []string // what goes out on it, all told
	}{
		"a break":                    {func(r *rig) { r.Drop(1) }, []string{told}},
		"bytes that are no packet":   {func(r *rig) { r.Feed(1, "\x00") }, []string{told, "disconnect 0x81"}},
		"a Disconnect":               {func(r *rig) { r.in(1, disconnect(0)) }, []string{told}},
		"a Disconnect with the will": {func(r *rig) { r.in(1, disconnect(api.WithWill)) }, []string{told}},
		"a second Connect":           {func(r *rig) { r.in(1, lasting("a")) }, []string{told, "disconnect 0x82"}},
		"no topic":                   {func(r *rig) { r.in(1, publish("a/#", "", 0, 0)) }, []string{told, "disconnect 0x90"}},
		"silence":                    {func(r *rig) { r.Tick(); r.Tick() }, []string{told, "disconnect 0x8d"}},
		"another connection":         {func(r *rig) { r.join(2, lasting("a")) }, []string{told, "disconnect 0x8e"}},
	} {
		r := with(t, nil)
		p := lasting("a")
		p.Keep = 1
		r.Open(1)
		r.in(1, p)
		is(t, "Client(1) ahead of "+name, r.Client(1), "a")
		x.ends(r)
		is(t, "IsOpen(1) behind "+name, r.IsOpen(1), false)
		is(t, "Client(1) behind "+name, r.Client(1), "")
		is(t, "clients behind "+name, strings.Join(r.Clients(), " "), "a")
		r.gets(1, x.want...)
		is(t, "Client(1) of no bytes, behind "+name, r.Client(1), "")
		r.join(1, lasting("a"))
		is(t, "Client(1) back from "+name, r.Client(1), "a")
		is(t, "Client(2) back from "+name, r.Client(2), "")
	}
	// The Connack of this one does not fit, so it ends as soon as it has a client, whose session stays.
	r := with(t, nil)
	r.Open(1)
	r.in(1, lasting("a", api.Prop{Id: 39, N: 4}))
	if r.IsOpen(1) || r.Client(1) != "" || strings.Join(r.Clients(), " ") != "a" {
		t.Errorf("behind a Connack that does not fit: %v, %q, %q", r.IsOpen(1), r.Client(1), r.Clients())
	}
}

// Br1: when bytes are gone, what waited for room goes out; whatever the number is.
func TestDrainPumps(t *testing.T) {
	for _, k := range []int{0, 1, 7, -1, 99} {
		r := with(t, func(c *api.Config) { c.Out = 64 })
		r.clients("a", "b")
		r.subs(0, 0, "#")
		for range 10 {
			r.in(1, publish("t", strings.Repeat("x", 30), 0, 0))
		}
		is(t, "some wait", len(r.Waiting("a")), 8)
		r.Drain(k, math.MaxInt)
		if k == 0 {
			is(t, "some wait", len(r.Waiting("a")), 6)
		} else {
			is(t, "some wait", len(r.Waiting("a")), 8)
		}
	}
}

// Br1: of a connection that says nothing for too long, the end is told.
func TestLate(t *testing.T) {
	r := with(t, func(c *api.Config) { c.Keep = 4 })
	r.Open(0)
	r.in(0, connect("a", true))
	r.gets(0, "connack 33=8 39=1024 34=4 19=4")
	p := connect("b", true)
	p.Keep = 3
	r.join(1, p)
	r.Open(2)
	for range 4 {
		r.Tick()
	}
	r.gets(1)
	r.Tick()
	r.gets(1, "disconnect 0x8d")
	is(t, "IsOpen(1)", r.IsOpen(1), false)
	r.Feed(0, "\xc0")
	for range 6 {
		r.Tick()
		is(t, "IsOpen(0)", r.IsOpen(0), true)
	}
	r.Tick()
	r.gets(0, "disconnect 0x8d")
	if len(r.Clients()) > 0 || !r.IsOpen(2) {
		t.Error("there are sessions, or a connection without a client was late")
	}
}

// Br1: sessions end when their time has come, with their subscriptions, and wills are sent at last.
func TestGone(t *testing.T) {
	r := with(t, nil)
	r.clients("w")
	r.subs(0, 1, "will/#")
	r.join(1, willed("a", api.Last{Topic: "will/a", Qos: 1, Props: []api.Prop{{Id: 24, N: 9}}}, api.Prop{Id: 17, N: 3}))
	r.subs(1, 1, "t", "$share/g/t")
	r.Drop(1)
	r.join(1, willed("b", api.Last{Topic: "will/b", Payload: "p", Props: []api.Prop{{Id: 24, N: 2}, {Id: 2, N: 7}}}, api.Prop{Id: 17, N: 9}))
	r.Drop(1)
	r.in(0, publish("t", "x", 0, 0))
	r.gets(0)
	is(t, "waits", topics(r.Waiting("a")), "")
	r.in(0, publish("t", "y", 1, 1))
	r.Sync()
	r.gets(0, "puback #1")
	is(t, "waits", topics(r.Waiting("a")), "t:y")
	is(t, "waits in the group", r.queue("g/t"), "x y")
	r.Tick()
	r.gets(0)
	r.Tick()
	r.gets(0, "publish will/b:p 2=7")
	if !slices.Equal(r.Clients(), []string{"a", "b", "w"}) || !slices.Equal(r.Filters("a"), []string{"$share/g/t", "t"}) || len(r.Members("g/t")) != 1 {
		t.Errorf("there are %q", r.Clients())
	}
	r.Tick()
	r.gets(0, "publish #1 will/a: q1")
	if !slices.Equal(r.Clients(), []string{"b", "w"}) || len(r.Filters("a")) > 0 || len(r.Members("g/t")) > 0 {
		t.Errorf("there are %q", r.Clients())
	}
	for range 6 {
		r.Tick()
	}
	is(t, "clients", strings.Join(r.Clients(), " "), "w")
	r.in(0, publish("t", "z", 2, 2))
	is(t, "the group", r.queue("g/t"), "x y z")
}

// Br1: what is retained is discarded when its time has come.
func TestRetainedExpires(t *testing.T) {
	r := with(t, nil)
	r.clients("a")
	r.in(0, kept("t", "x", 0, 0, api.Prop{Id: 2, N: 2}), kept("u", "y", 0, 0))
	is(t, "retained", topics(r.Retained("#")), "t:x u:y")
	r.Tick()
	is(t, "retained", topics(r.Retained("#")), "t:x u:y")
	r.Tick()
	is(t, "retained", topics(r.Retained("#")), "u:y")
	r.in(0, kept("u", "", 0, 0))
	is(t, "retained", topics(r.Retained("#")), "")
}

// Br1: no broker, and a zero one.
func TestNothing(t *testing.T) {
	for _, b := range []*broker.Broker{nil, {}} {
		b.Feed(0, "\x00")
		b.Drop(0)
		b.Tick()
		b.Sync()
		if b.Open(0) || b.IsOpen(0) || b.Client(0) != "" || b.Out(0) != "" || b.Drain(0, 9) != "" || b.Now() != 0 || b.Waits() {
			t.Error("there is a broker")
		}
		if len(b.Clients())+len(b.Flights("a"))+len(b.Waiting("a"))+len(b.Filters("a"))+len(b.Keys())+len(b.Items("g/t"))+len(b.Members("g/t"))+len(b.Retained("#")) > 0 {
			t.Error("there is something")
		}
	}
}

// Br2: bytes that are no packets end a connection, with their reason; behind that nothing is taken.
func TestErrors(t *testing.T) {
	for s, want := range map[string]string{
		"\x00": "0x81", "\xc0\x01\x00": "0x81", "\x62\x02\x00\x00": "0x82", "\x30\xff\x7f": "0x95", "\x10\x07\x00\x04MQTT\x04": "0x84", "\x62\x01\x00": "0x81", "\xc0\xff\xff\xff\xff": "0x81", "\x40\x03\x00\x01\x92": "0x81",
	} {
		r := with(t, nil)
		r.Open(0)
		r.Feed(0, s+"\xc0\x00")
		r.gets(0, "connack "+want)
		is(t, "IsOpen", r.IsOpen(0), false)
		r.join(0, lasting("a"))
		r.Feed(0, "\xc0\x00"+s+"\xc0\x00")
		if want == "0x84" {
			want = "0x80"
		}
		r.gets(0, "pingresp", "disconnect "+want)
		is(t, "IsOpen", r.IsOpen(0), false)
		r.Feed(0, "\xc0\x00")
		r.gets(0)
	}
}

// Br2: bytes may come one by one.
func TestPieces(t *testing.T) {
	r := with(t, nil)
	r.Open(0)
	for _, c := range []byte(r.bytes(connect("a", true), ack(api.Pingreq, 0, 0))) {
		r.Feed(0, string([]byte{c}))
	}
	r.gets(0, "connack 33=8 39=1024 34=4", "pingresp")
}

// Br2: the first packet is a Connect, and no other one is; what only servers send ends the connection.
func TestKinds(t *testing.T) {
	for kind := api.Connect; kind <= api.Auth; kind++ {
		p := api.Packet{Kind: kind, Id: 1, Topic: "t", Subs: []api.Sub{{Filter: "t"}}, Filters: []string{"t"}, Codes: []int{0}, Client: "a"}
		r := with(t, nil)
		r.Open(0)
		r.in(0, p, ack(api.Pingreq, 0, 0))
		if kind == api.Connect {
			r.gets(0, "connack 33=8 39=1024 34=4", "pingresp")
		} else {
			r.gets(0, "connack 0x82")
			is(t, "IsOpen", r.IsOpen(0), false)
			r.join(0, lasting("a"))
		}
		r.in(0, p, ack(api.Pingreq, 0, 0))
		answer := map[int]string{
			api.Publish: "pingresp", api.Puback: "pingresp", api.Pubrec: "pubrel #1 0x92", api.Pubrel: "pubcomp #1 0x92", api.Pubcomp: "pingresp", api.Subscribe: "suback #1 [0]", api.Unsubscribe: "unsuback #1 [17]", api.Pingreq: "pingresp",
		}[kind]
		switch {
		case kind == api.Disconnect:
			r.gets(0)
		case answer == "":
			r.gets(0, "disconnect 0x82")
		case answer == "pingresp" && kind != api.Pingreq:
			r.gets(0, "pingresp")
		default:
			r.gets(0, answer, "pingresp")
		}
		is(t, fmt.Sprint("IsOpen behind kind ", kind), r.IsOpen(0), answer != "")
	}
}

// Br2: a Disconnect ends the connection, with the will unless its reason is 0, and may change when the session ends.
func TestDisconnect(t *testing.T) {
	for _, x := range []struct {
		expiry int
		p      api.Packet
		out    string
		will   bool
		gone   int // the tick in which the session is gone, 0 for at once, -1 for none
	}{
		{5, disconnect(0), "", false, 5}, {5, disconnect(4), "", true, 5}, {5, disconnect(0x80), "", true, 5}, {5, disconnect(0, api.Prop{Id: 17, N: 2}), "", false, 2}, {5, disconnect(4, api.Prop{Id: 17}), "", true, 0},
		{5, disconnect(0, api.Prop{Id: 17, N: 1<<32 - 1}), "", false, -1}, {0, disconnect(0), "", false, 0}, {0, disconnect(0, api.Prop{Id: 17}), "", false, 0}, {0, disconnect(0, api.Prop{Id: 17, N: 1}), "disconnect 0x82", true, 0},
	} {
		r := with(t, nil)
		r.clients("w")
		r.subs(0, 0, "will")
		r.join(1, willed("a", api.Last{Topic: "will"}, api.Prop{Id: 17, N: x.expiry}))
		r.in(1, x.p, ack(api.Pingreq, 0, 0))
		if x.out != "" {
			r.gets(1, x.out)
		} else {
			r.gets(1)
		}
		if x.will {
			r.gets(0, "publish will:")
		} else {
			r.gets(0)
		}
		for tick := range 9 {
			is(t, fmt.Sprintf("%+v, in tick %d", x, tick), len(r.Clients()) == 1, x.gone >= 0 && tick >= x.gone)
			r.Tick()
		}
		r.gets(0)
	}
}
