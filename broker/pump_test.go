package broker_test

import (
	"fmt"
	"math/rand"
	"slices"
	"strings"
	"testing"

	"towncrier/api"
	"towncrier/broker"
	"towncrier/packet"
)

// publishes lets messages without a QoS that lasts come in, of one topic, with these payloads, from one who is a client for that only.
func (r *rig) publishes(qos int, topic string, payloads ...string) {
	r.t.Helper()
	r.join(7, connect("publisher", true))
	for i, s := range payloads {
		id := 0
		if qos > 0 {
			id = i + 1
		}
		r.in(7, publish(topic, s, qos, id))
	}
	r.in(7, disconnect(0))
}

// Br4: what waits goes out in its order, as far as the client takes it.
func TestPump(t *testing.T) {
	r := with(t, nil)
	r.join(0, lasting("a", api.Prop{Id: 33, N: 2}))
	r.subs(0, 1, "#")
	r.publishes(1, "t", "v", "w", "x")
	r.publishes(0, "t", "y")
	r.gets(0, "publish #1 t:v q1", "publish #2 t:w q1")
	is(t, "waits", topics(r.Waiting("a")), "t:x t:y")
	r.in(0, ack(api.Puback, 2, 0))
	r.gets(0, "publish #3 t:x q1", "publish t:y")
}

// Br4: what a client can't get counts as if it had arrived.
func TestDoesNotFit(t *testing.T) {
	r := with(t, nil)
	r.join(0, lasting("a", api.Prop{Id: 39, N: 20}))
	r.subs(0, 2, "#")
	long := strings.Repeat("x", 20)
	for qos := range 3 {
		r.publishes(qos, "t", long, "y")
	}
	r.gets(0, "publish t:y", "publish #2 t:y q1", "publish #4 t:y q2")
	r.in(0, ack(api.Puback, 2, 0), ack(api.Pubrec, 4, 0))
	r.gets(0, "pubrel #4")
	is(t, "in transit", len(r.Flights("a")), 1)
	is(t, "waits", len(r.Waiting("a")), 0)
	// So it is with what is sent again to a client that takes less.
	r.publishes(2, "t", "zzzzz")
	r.gets(0, "publish #5 t:zzzzz q2")
	r.Drop(0)
	r.join(0, lasting("a", api.Prop{Id: 39, N: 11}))
	r.gets(0)
	is(t, "in transit", fmt.Sprint(r.Flights("a")), fmt.Sprint([]api.Flight{{Id: 4, State: 3, Msg: r.Flights("a")[0].Msg}}))
	r.Drop(0)
	r.Open(0)
	r.in(0, lasting("a", api.Prop{Id: 39, N: 5}))
	r.gets(0, "connack present", "pubrel #4")
}

// Br4: members take turns; example 1 of the whole.
func TestTurns(t *testing.T) {
	r := with(t, nil)
	r.clients("a", "b")
	r.subs(0, 1, "$share/g/t")
	r.subs(1, 1, "$share/g/t")
	r.publishes(1, "t", "v", "w", "x")
	r.gets(0, "publish #1 t:v q1", "publish #2 t:x q1")
	r.gets(1, "publish #1 t:w q1")
}

// Br4: what is in transit to a member that disconnects goes to another one, marked as sent again; example 2 of the whole.
func TestMemberDisconnects(t *testing.T) {
	r := with(t, nil)
	r.clients("a", "b")
	r.subs(0, 2, "$share/g/t")
	r.subs(1, 2, "$share/g/t")
	r.publishes(2, "t", "v", "w", "x")
	r.gets(0, "publish #1 t:v q2", "publish #2 t:x q2")
	r.gets(1, "publish #1 t:w q2")
	r.in(0, ack(api.Pubrec, 2, 0))
	r.gets(0, "pubrel #2")
	r.Drop(0)
	r.gets(1, "publish #2 t:v q2 dup")
	// What it had acknowledged is still in transit to it.
	is(t, "in transit", len(r.Flights("a")), 1)
	r.Drop(1)
	is(t, "the group", r.queue("g/t"), "v* w*")
	r.Open(0)
	r.in(0, lasting("a"))
	r.gets(0, "connack present 33=8 39=1024 34=4", "pubrel #2", "publish #3 t:v q2 dup", "publish #4 t:w q2 dup")
}

// Br4: the messages of a key go to one member, until nothing of the key is in transit; example 7 of the whole.
func TestKeys(t *testing.T) {
	r := with(t, nil)
	r.clients("a", "b", "c")
	for k := range 3 {
		r.subs(k, 1, "$share/h-g/#")
	}
	r.publishes(1, "t", "v", "w", "x")
	first := r.Items("h-g/#")[0].At
	is(t, "the group", r.queue("h-g/#"), strings.ReplaceAll("v@a* w@a* x@a*", "a", first))
	k := slices.Index([]string{"a", "b", "c"}, first)
	r.Drop(k)
	second := r.Items("h-g/#")[0].At
	is(t, "the group", r.queue("h-g/#"), strings.ReplaceAll("v@a* w@a* x@a*", "a", second))
	r.join(k, lasting(first))
	r.publishes(1, "t", "y")
	is(t, "the group", r.queue("h-g/#"), strings.ReplaceAll("v@a* w@a* x@a* y@a*", "a", second))
	for _, id := range []int{1, 2, 3, 4} {
		r.in(slices.Index([]string{"a", "b", "c"}, second), ack(api.Puback, id, 0))
	}
	r.publishes(1, "t", "z")
	is(t, "the group", r.queue("h-g/#"), "z@"+first+"*")
}

// Br4: when the owner disconnects, the earliest that is connected owns; example 8 of the whole.
func TestOwner(t *testing.T) {
	r := with(t, nil)
	r.clients("a", "b", "c")
	for _, k := range []int{2, 0, 1} {
		r.subs(k, 1, "$share/x-g/#")
	}
	r.publishes(1, "t", "v", "w")
	is(t, "the group", r.queue("x-g/#"), "v@c* w@c*")
	r.Drop(2)
	is(t, "the group", r.queue("x-g/#"), "v@a* w@a*")
}

// Br4: a member gets a message with the lesser QoS; with 0 it is done at once, and recorded.
func TestMemberQos(t *testing.T) {
	r := with(t, nil)
	r.clients("a")
	r.subs(0, 1, "$share/g/t")
	r.publishes(2, "t", "v")
	r.gets(0, "publish #1 t:v q1")
	r.publishes(0, "t", "w")
	r.gets(0, "publish t:w")
	r.subs(0, 0, "$share/g/t")
	r.publishes(2, "t", "x")
	r.gets(0, "publish t:x")
	is(t, "the group", r.queue("g/t"), "v@a*")
	r.d.Crash(1 << 20)
	b, _ := broker.New(rigBounds(), r.d, 0)
	r.Broker = b
	is(t, "the group", r.queue("g/t"), "v*")
	r.clients("a", "b")
	r.subs(1, 0, "$share/g/t")
	r.gets(1, "publish t:v")
	is(t, "the group", r.queue("g/t"), "")
}

// rigBounds are the usual bounds.
func rigBounds() api.Config {
	return api.Config{Conns: 8, Packet: 1024, Receive: 8, Aliases: 4, Queue: 16, Group: 16, Out: 4096, Disk: 65536, Clients: 8, Retained: 16, Session: 1000}
}

// Br7: after a crash, what is sure is in the queue, and is sent as if it had been sent.
func TestAfterCrash(t *testing.T) {
	r := with(t, nil)
	r.clients("a")
	r.subs(0, 1, "$share/g/t")
	r.Drop(0)
	r.publishes(1, "t", "v")
	r.Sync()
	r.publishes(1, "t", "w")
	r.d.Crash(0)
	r.Broker, _ = broker.New(rigBounds(), r.d, 5)
	is(t, "the group", r.queue("g/t"), "v*")
	is(t, "sessions", len(r.Clients()), 0)
	r.clients("b")
	r.subs(0, 2, "$share/g/t")
	r.gets(0, "publish #1 t:v q1 dup")
}

// Br4: what does not fit for a member goes to another one; as long as there is none, it stays in the queue, and is tried once each time.
func TestGroupDoesNotFit(t *testing.T) {
	long := strings.Repeat("x", 20)
	for qos := range 3 {
		r := with(t, nil)
		r.join(0, lasting("a", api.Prop{Id: 39, N: 20}))
		r.subs(0, qos, "$share/g/t")
		r.publishes(2, "t", "v", long, "y")
		r.Sync()
		r.Tick()
		if l := r.Items("g/t"); len(l) < 2 || l[len(l)-2].Msg.Payload != long || l[len(l)-2].At != "" || !slices.Equal(l[len(l)-2].Behind, []string{"a"}) || !l[len(l)-2].Again {
			t.Errorf("with QoS %d: %+v", qos, l)
		}
		is(t, "in transit", len(r.Flights("a")), min(qos, 1))
		r.join(1, lasting("b"))
		r.subs(1, 2, "$share/g/t")
		r.gets(1, "publish #1 t:"+long+" q2 dup")
		want := "publish #" + fmt.Sprint(r.lastId("a")) + " t:y q" + fmt.Sprint(qos)
		if qos == 0 {
			r.gets(0, "publish t:v", "publish t:y")
			is(t, "the group", r.queue("g/t"), long+"@b*")
		} else {
			r.gets(0, fmt.Sprint("publish #1 t:v q", qos), want)
			is(t, "the group", r.queue("g/t"), "v@a* "+long+"@b* y@a*")
		}
	}
}

// Br1: behind all that happens, all that may goes out: each time, a message that does not fit is tried once more, and takes a number.
func TestWhenIsPumped(t *testing.T) {
	for what, x := range map[string]struct {
		happen func(r *rig)
		tries  int
	}{
		"nothing": {func(r *rig) {}, 0}, "Sync": {func(r *rig) { r.Sync() }, 1}, "Tick": {func(r *rig) { r.Tick() }, 1}, "Drop": {func(r *rig) { r.Drop(2) }, 1}, "Feed": {func(r *rig) { r.Feed(2, "") }, 1},
		"Drain": {func(r *rig) { r.Broker.Drain(1, 0) }, 1}, "Drain of no number": {func(r *rig) { r.Broker.Drain(99, 0); r.Broker.Drain(-1, 1) }, 2}, "Drain of a connection that was never open": {func(r *rig) { r.Broker.Drain(5, 1) }, 1},
		"Open": {func(r *rig) { r.Open(6) }, 0}, "Feed of none": {func(r *rig) { r.Feed(5, "\x00"); r.Feed(99, "\x00") }, 0},
	} {
		r := with(t, nil)
		r.join(0, lasting("a", api.Prop{Id: 39, N: 20}))
		r.join(1, lasting("b"))
		r.Open(2)
		r.in(0, subscribe(1, "$share/g/t"), subscribe(1, "u"))
		r.in(1, publish("t", strings.Repeat("x", 20), 1, 1))
		r.Sync()
		before := r.next("a")
		x.happen(r)
		// One number is that of the message that fits, and two are those of tries behind it, and behind its acknowledgement.
		if after := r.next("a"); after-before != x.tries+3 {
			t.Errorf("%s: %d numbers were taken, want %d", what, after-before, x.tries+3)
		}
	}
}

// next is the number of a message that is sent to a client then, and acknowledged.
func (r *rig) next(client string) int {
	r.in(1, publish("u", "x", 1, 3))
	id := r.lastId(client)
	r.in(0, ack(api.Puback, id, 0))
	return id
}

// lastId is the number of the last message in transit to a client.
func (r *rig) lastId(client string) int {
	if l := r.Flights(client); len(l) > 0 {
		return l[len(l)-1].Id
	}
	return 0
}

// Br4: a client that is full, or takes no more, is not free.
func TestNotFree(t *testing.T) {
	r := with(t, func(c *api.Config) { c.Out = 64 })
	r.join(0, lasting("a", api.Prop{Id: 33, N: 1}))
	r.join(1, lasting("b"))
	r.subs(0, 1, "$share/g/#")
	r.subs(1, 1, "$share/g/#")
	r.publishes(1, "t", "v", "w", "x", strings.Repeat("y", 64), "z")
	is(t, "the group", r.queue("g/#"), "v@a* w@b* x@b* "+strings.Repeat("y", 64)+"@b* z")
	r.in(0, ack(api.Puback, 1, 0))
	is(t, "the group", r.queue("g/#"), "w@b* x@b* "+strings.Repeat("y", 64)+"@b* z@a*")
	r.publishes(0, "t", "w")
	is(t, "the group", r.queue("g/#"), "w@b* x@b* "+strings.Repeat("y", 64)+"@b* z@a* w")
	r.Drain(1, 20)
	is(t, "the group", r.queue("g/#"), "w@b* x@b* "+strings.Repeat("y", 64)+"@b* z@a* w")
	r.Drain(1, 40)
	is(t, "the group", r.queue("g/#"), "w@b* x@b* "+strings.Repeat("y", 64)+"@b* z@a*")
}

// Br4: what waits in a group expires, and tells how long it may wait yet.
func TestGroupExpires(t *testing.T) {
	r := with(t, func(c *api.Config) { c.Wait = 5 })
	r.clients("a", "b")
	r.subs(0, 1, "$share/g/t")
	r.Drop(0)
	r.in(1, publish("t", "x", 1, 1), publish("t", "y", 1, 2, api.Prop{Id: 2, N: 2}), publish("t", "z", 1, 3, api.Prop{Id: 2, N: 9}))
	r.Tick()
	is(t, "the group", r.queue("g/t"), "x y z")
	r.Tick()
	is(t, "the group", r.queue("g/t"), "x z")
	r.Open(0)
	r.in(0, lasting("a"))
	r.gets(0, "connack present 33=8 39=1024 34=4", "publish #1 t:x q1 2=3", "publish #2 t:z q1 2=3")
	for range 9 {
		r.Tick()
	}
	is(t, "the group", r.queue("g/t"), "x@a* z@a*")
	r.Drop(0)
	is(t, "the group", r.queue("g/t"), "")
}

// snapshot is all that a client's session has that can be seen.
func (r *rig) snapshot(client string) string {
	return fmt.Sprint(r.Filters(client), r.Waiting(client), r.Flights(client))
}

// Br6, Br8: whatever arrives, what is in transit from a group is in transit to a member that is connected; and bytes that are no packets end their connection, and change no other session.
func TestWhateverArrives(t *testing.T) {
	rnd := rand.New(rand.NewSource(38))
	for round := range 300 {
		r := with(t, func(c *api.Config) {
			c.Conns, c.Clients, c.Group, c.Queue, c.Out, c.Receive, c.Disk, c.Wait = 4, 3, 3, 3, 200, 3, 2000, 20
		})
		for range 120 {
			k := rnd.Intn(4)
			switch rnd.Intn(12) {
			case 0:
				r.Open(k)
			case 1:
				r.Drop(k)
			case 2:
				r.Tick()
			case 3:
				r.Sync()
			case 4, 5:
				r.Drain(k, rnd.Intn(300))
			case 6:
				r.rubbish(k, rnd)
			default:
				if client := r.Client(k); r.IsOpen(k) && client != "" && rnd.Intn(3) == 0 {
					if l := r.Flights(client); len(l) > 0 {
						f := l[rnd.Intn(len(l))]
						r.in(k, ack([]int{api.Puback, api.Pubrec, api.Pubcomp}[f.State-1], f.Id, 0))
					}
				} else {
					r.in(k, some(rnd, r.IsOpen(k) && client == ""))
				}
			}
			r.sound()
			if t.Failed() {
				t.Fatalf("in round %d", round)
			}
		}
	}
}

// some is any packet, a Connect if it is the first one.
func some(rnd *rand.Rand, first bool) api.Packet {
	name := []string{"a", "b", "c", ""}[rnd.Intn(4)]
	topic := []string{"t", "u", "t/u"}[rnd.Intn(3)]
	qos := rnd.Intn(3)
	id := 1 + rnd.Intn(3)
	if first {
		p := connect(name, rnd.Intn(2) > 0, api.Prop{Id: 17, N: rnd.Intn(9)}, api.Prop{Id: 33, N: 1 + rnd.Intn(3)})
		if rnd.Intn(3) == 0 {
			p.Will = api.Last{Has: true, Topic: topic, Qos: qos, Props: []api.Prop{{Id: 24, N: rnd.Intn(4)}}}
		}
		if rnd.Intn(3) == 0 {
			p.Props = append(p.Props, api.Prop{Id: 39, N: 4 + rnd.Intn(20)})
		}
		return p
	}
	switch rnd.Intn(9) {
	case 0, 1:
		filter := []string{"t", "#", "+/u", "$share/g/t", "$share/h-g/#", "$share/l-g/#", "$share/x-g/t", "$share/s-g/+"}[rnd.Intn(8)]
		if rnd.Intn(3) == 0 {
			return api.Packet{Kind: api.Unsubscribe, Id: id, Filters: []string{filter}}
		}
		return api.Packet{Kind: api.Subscribe, Id: id, Subs: []api.Sub{{Filter: filter, Qos: qos}}}
	case 2:
		return ack(api.Pubrel, id, 0)
	case 3:
		return ack(api.Puback+rnd.Intn(2), id, rnd.Intn(2)*0x80)
	case 4:
		return disconnect(rnd.Intn(2) * 4)
	}
	p := publish(topic, strings.Repeat("x", rnd.Intn(12)), qos, id)
	if qos == 0 {
		p.Id = 0
	}
	p.Retain = rnd.Intn(4) == 0
	return p
}

// rubbish lets bytes come in that are no packet, and fails the test unless they end their connection, after at most one packet, and change no other client's session, but for what was in transit to theirs.
func (r *rig) rubbish(k int, rnd *rand.Rand) {
	r.t.Helper()
	if !r.IsOpen(k) {
		return
	}
	client, before, inTransit := r.Client(k), map[string]string{}, false
	for _, who := range r.Clients() {
		before[who] = r.snapshot(who)
	}
	for _, key := range r.Keys() {
		for _, x := range r.Items(key) {
			inTransit = inTransit || x.At == client || x.At == ""
		}
	}
	out := len(r.Out(k))
	// A client whose session ends with its connection may have a will.
	r.Feed(k, []string{"\x00", "\xc0\x01\x00", "\x62\x02\x00\x00", "\x36\x00"}[rnd.Intn(4)])
	l, err := packet.All(r.Out(k)[out:], 1<<28)
	if r.IsOpen(k) || len(l) > 1 || err != nil || len(l) == 1 && l[0].Kind != api.Disconnect && l[0].Kind != api.Connack {
		r.t.Errorf("behind rubbish goes out %+v, %v", l, err)
	}
	if client != "" || inTransit {
		return
	}
	for _, who := range r.Clients() {
		if before[who] != r.snapshot(who) {
			r.t.Errorf("%s had %s, and has %s", who, before[who], r.snapshot(who))
		}
	}
}

// sound fails the test unless what is in transit from groups is in transit to members that are connected.
func (r *rig) sound() {
	r.t.Helper()
	here := map[string]int{}
	for k := range 8 {
		if r.IsOpen(k) && r.Client(k) != "" {
			here[r.Client(k)]++
		}
	}
	for client, n := range here {
		if n > 1 || !slices.Contains(r.Clients(), client) {
			r.t.Errorf("%s has %d connections", client, n)
		}
	}
	for _, key := range r.Keys() {
		members := r.Members(key)
		for _, m := range members {
			if m.Online != (here[m.Client] > 0) || !slices.Contains(r.Filters(m.Client), "$share/"+key) {
				r.t.Errorf("of %s is a member %+v", key, m)
			}
		}
		for _, x := range r.Items(key) {
			if x.At == "" {
				continue
			}
			isMember := slices.ContainsFunc(members, func(m api.Member) bool { return m.Client == x.At && m.Online })
			isSent := slices.ContainsFunc(r.Flights(x.At), func(f api.Flight) bool { return f.Msg.Group == key && f.Msg.Seq == x.Msg.Seq && f.State < 3 })
			if !isMember || !isSent {
				r.t.Errorf("of %s, %+v is in transit; %v, %v", key, x, isMember, isSent)
			}
		}
	}
}
