package broker_test

import (
	"fmt"
	"strings"
	"testing"

	"towncrier/api"
)

// refuses fails the test unless a Connect is answered so, and its connection ends.
func (r *rig) refuses(k int, p api.Packet, want string) {
	r.t.Helper()
	r.Open(k)
	r.in(k, p, ack(api.Pingreq, 0, 0))
	r.gets(k, want)
	is(r.t, "IsOpen", r.IsOpen(k), false)
}

// Br3: what is refused, in its order.
func TestConnectRefuses(t *testing.T) {
	r := with(t, nil)
	long := strings.Repeat("x", 65)
	method := api.Prop{Id: 21, S: "m"}
	l := api.Last{Topic: "a/#"}
	r.refuses(0, willed(long, l, method), "connack 0x8c")
	r.refuses(0, connect("a", true, api.Prop{Id: 21}), "connack 0x8c")
	r.refuses(0, willed(long, l), "connack 0x85")
	r.refuses(0, willed("a", l), "connack 0x90")
	r.refuses(0, willed("a", api.Last{}), "connack 0x90")
	is(t, "clients", len(r.Clients()), 0)
	r.join(0, willed(long[1:], api.Last{Topic: "a"}))
	is(t, "clients", strings.Join(r.Clients(), " "), long[1:])
}

// Br3: a client without a name gets one that no session has.
func TestAssigned(t *testing.T) {
	r := with(t, nil)
	long := api.Prop{Id: 17, N: 100}
	r.join(0, lasting("auto2"))
	for k, want := range []string{"auto1", "auto3", "auto4"} {
		r.Open(k + 1)
		r.in(k+1, connect("", k == 1, long))
		r.gets(k+1, "connack 33=8 39=1024 18=0"+want+" 34=4")
		is(t, "Client", r.Client(k+1), want)
	}
	r.in(1, disconnect(0, api.Prop{Id: 17}))
	is(t, "clients", strings.Join(r.Clients(), " "), "auto2 auto3 auto4")
	r.Open(1)
	r.in(1, connect("", false))
	is(t, "Client", r.Client(1), "auto1")
}

// Br3: who connects takes over from its own connection, with the will of that.
func TestTakeOver(t *testing.T) {
	r := with(t, nil)
	r.clients("w")
	r.subs(0, 0, "will")
	will := api.Last{Topic: "will"}
	r.join(1, willed("a", will, api.Prop{Id: 17, N: 9}))
	r.subs(1, 1, "t")
	r.Open(2)
	r.in(2, willed("a", will))
	r.gets(1, "disconnect 0x8e")
	r.gets(0, "publish will:")
	r.gets(2, "connack present 33=8 39=1024 34=4")
	if r.IsOpen(1) || !r.IsOpen(2) || len(r.Filters("a")) != 1 {
		t.Errorf("there are %q", r.Filters("a"))
	}
	r.Feed(1, "\xc0\x00")
	r.gets(1)
	// With an expiry of 0, the session ends with its connection.
	r.join(1, connect("a", false))
	r.gets(2, "disconnect 0x8e")
	r.gets(0, "publish will:")
	is(t, "filters", len(r.Filters("a")), 0)
	is(t, "clients", strings.Join(r.Clients(), " "), "a w")
}

// Br3: a will that waits is dropped when its client is back, and sent when its session is removed.
func TestWaitingWill(t *testing.T) {
	r := with(t, nil)
	r.clients("w")
	r.subs(0, 0, "will")
	p := willed("a", api.Last{Topic: "will", Props: []api.Prop{{Id: 24, N: 5}}}, api.Prop{Id: 17, N: 9})
	r.join(1, p)
	r.Drop(1)
	r.join(1, p)
	r.gets(0)
	r.Drop(1)
	for range 3 {
		r.Tick()
	}
	r.join(1, lasting("a"))
	for range 9 {
		r.Tick()
	}
	r.gets(0)
	r.Drop(1)
	r.join(1, p)
	r.Drop(1)
	r.gets(0)
	r.join(1, connect("a", true))
	r.gets(0, "publish will:")
	for range 9 {
		r.Tick()
	}
	r.gets(0)
	// Taken over, it waits, and is dropped at once; with Clean it is sent.
	r.join(2, p)
	r.join(1, p)
	r.gets(0)
	p.Clean = true
	r.join(2, p)
	r.gets(0, "publish will:")
}

// Br3: Clean removes a session; without it the session goes on.
func TestClean(t *testing.T) {
	r := with(t, nil)
	r.clients("a", "b")
	r.subs(0, 1, "t", "$share/g/t")
	r.Drop(0)
	r.in(1, publish("t", "x", 1, 1))
	r.Open(0)
	r.in(0, lasting("a"))
	r.gets(0, "connack present 33=8 39=1024 34=4", "publish #1 t:x q1", "publish #2 t:x q1")
	r.Drop(0)
	r.Open(0)
	r.in(0, connect("a", true))
	r.gets(0, "connack 33=8 39=1024 34=4")
	if len(r.Filters("a")) > 0 || len(r.Members("g/t")) > 0 || len(r.Flights("a")) > 0 {
		t.Errorf("there are %q", r.Filters("a"))
	}
}

// Br3: there are no more sessions than clients may be.
func TestClients(t *testing.T) {
	r := with(t, func(c *api.Config) { c.Clients = 2 })
	r.clients("a", "b")
	r.Drop(0)
	r.refuses(2, connect("c", true), "connack 0x97")
	r.refuses(2, connect("", true), "connack 0x97")
	r.join(2, connect("a", true))
	r.join(3, connect("b", true))
	r.Drop(3)
	is(t, "clients", strings.Join(r.Clients(), " "), "a")
	r.join(3, connect("c", true))
	is(t, "clients", strings.Join(r.Clients(), " "), "a c")
}

// Br3: what the client is told of its terms, as far as that fits.
func TestConnack(t *testing.T) {
	r := with(t, func(c *api.Config) { c.Session, c.Aliases = 7, 0 })
	for most, want := range map[int]string{0: "connack 17=7 33=8 39=1024", 18: "connack 17=7 33=8 39=1024", 17: "connack", 5: "connack", 4: "", 1: ""} {
		r.join(1, willed("w", api.Last{Topic: "x"}, api.Prop{Id: 17, N: 7}))
		r.subs(1, 0, "will")
		p := willed(fmt.Sprint("a", most), api.Last{Topic: "will"}, api.Prop{Id: 17, N: 9})
		if most > 0 {
			p.Props = append(p.Props, api.Prop{Id: 39, N: most})
		}
		r.Open(0)
		r.in(0, p)
		if want != "" {
			r.gets(0, want)
			r.Drop(0)
			r.gets(1, "publish will:")
		} else {
			r.gets(0)
			is(t, "IsOpen", r.IsOpen(0), false)
			r.gets(1)
		}
		for range 9 {
			r.Tick()
		}
		is(t, "clients", strings.Join(r.Clients(), " "), "w")
		r.gets(1)
		r.Drop(1)
	}
	// Without an expiry, the session of a client that can't be told is gone at once.
	r.Open(0)
	r.in(0, connect("a", true, api.Prop{Id: 39, N: 4}))
	is(t, "IsOpen", r.IsOpen(0), false)
	for _, client := range r.Clients() {
		is(t, "client", client, "w")
	}
}

// Br3: what was in transit is sent again, one by one; example 10 of the whole has a Receive Maximum of 1.
func TestReturn(t *testing.T) {
	r := with(t, nil)
	r.clients("a", "b")
	r.subs(0, 2, "t")
	r.in(1, publish("t", "x", 1, 1), publish("t", "y", 2, 2), publish("t", "z", 2, 3))
	r.gets(0, "publish #1 t:x q1", "publish #2 t:y q2", "publish #3 t:z q2")
	r.in(0, ack(api.Pubrec, 2, 0))
	r.gets(0, "pubrel #2")
	r.Drop(0)
	r.Open(0)
	r.in(0, lasting("a", api.Prop{Id: 33, N: 1}))
	r.gets(0, "connack present 33=8 39=1024 34=4", "publish #1 t:x q1 dup")
	r.in(0, ack(api.Puback, 1, 0))
	r.gets(0, "pubrel #2")
	r.in(0, ack(api.Pubcomp, 2, 0))
	r.gets(0, "publish #3 t:z q2 dup")
	r.in(0, ack(api.Pubrec, 3, 0), ack(api.Pubcomp, 3, 0))
	r.gets(0, "pubrel #3")
	is(t, "flights", len(r.Flights("a")), 0)
}

// Br3: a will has the time, and the properties, of when it is sent.
func TestWillIsMade(t *testing.T) {
	r := with(t, nil)
	r.clients("w")
	r.subs(0, 2, "#")
	r.join(1, willed("a", api.Last{Topic: "will", Payload: "p", Qos: 2, Retain: true, Props: []api.Prop{{Id: 24, N: 2}, {Id: 3, S: "x"}, {Id: 2, N: 5}}}, api.Prop{Id: 17, N: 9}))
	r.Drop(1)
	r.Tick()
	is(t, "retained", topics(r.Retained("#")), "")
	r.Tick()
	l := r.Retained("will")
	if len(l) != 1 || l[0].Until != 7 || l[0].From != "a" || !l[0].Retain || l[0].Qos != 2 || fmt.Sprint(l[0].Props) != "[{3 0 x } {2 5  }]" {
		t.Errorf("retained %+v", l)
	}
	r.gets(0, "publish #1 will:p q2 3=0x 2=5")
}
