package rules_test

import (
	"fmt"
	"math/rand"
	"strings"
	"testing"

	"towncrier/api"
	"towncrier/packet"
	"towncrier/rules"
	"towncrier/terms"
	"towncrier/world"
)

// chance makes events by chance.
type chance struct {
	*rand.Rand
	w *world.World
}

// of is one of some texts.
func (c chance) of(l ...string) string { return l[c.Intn(len(l))] }

// event is any event.
func (c chance) event() api.Event {
	k := c.Intn(4)
	switch n := c.Intn(40); {
	case n < 3:
		return api.Event{Kind: api.EvOpen, Conn: k}
	case n == 3:
		return api.Event{Kind: api.EvDrop, Conn: k}
	case n < 8:
		return api.Event{Kind: api.EvDrain, Conn: k, N: c.Intn(500)}
	case n < 10:
		return api.Event{Kind: api.EvTick}
	case n < 13:
		return api.Event{Kind: api.EvSync}
	case n == 13 && c.Intn(4) == 0:
		return api.Event{Kind: api.EvCrash, N: c.Intn(200)}
	case n == 14 && c.Intn(3) == 0:
		return api.Event{Kind: api.EvFeed, Conn: k, Bytes: c.of("\x00", "\xc0", "\xc0\x01\x00", "\x36\x00", "\x30\xff\xff", "\x62\x02\x00\x00", "\x10\x07\x00\x04MQTT\x04")}
	}
	s := ""
	for range 1 + c.Intn(3) {
		p := c.packet(c.w.Broker().Client(k))
		if s == "" && c.w.Broker().Client(k) == "" || c.Intn(60) == 0 {
			p = c.connect()
		}
		one, err := packet.Encode(p)
		if err != nil {
			panic(fmt.Sprint(p, err))
		}
		s += one
	}
	return api.Event{Kind: api.EvFeed, Conn: k, Bytes: s}
}

// connect is any Connect.
func (c chance) connect() api.Packet {
	p := api.Packet{Kind: api.Connect, Client: c.of("a", "b", "c", ""), Clean: c.Intn(3) == 0, Keep: c.Intn(2) * 9, Props: []api.Prop{{Id: 17, N: c.Intn(12)}}}
	if c.Intn(2) == 0 {
		p.Props = append(p.Props, api.Prop{Id: 33, N: 1 + c.Intn(4)})
	}
	if c.Intn(4) == 0 {
		p.Props = append(p.Props, api.Prop{Id: 39, N: 3 + c.Intn(30)})
	}
	if c.Intn(2) == 0 {
		p.Props = append(p.Props, api.Prop{Id: 34, N: c.Intn(4)})
	}
	if c.Intn(3) == 0 {
		p.Will = api.Last{Has: true, Topic: c.of("t", "u", "t/u", "#"), Qos: c.Intn(3), Retain: c.Intn(2) == 0, Props: []api.Prop{{Id: 24, N: c.Intn(5)}, {Id: 2, N: c.Intn(5)}}}
	}
	return p
}

// packet is any packet of a client; most acknowledgements are of what is in transit to it.
func (c chance) packet(client string) api.Packet {
	id, qos := 1+c.Intn(4), c.Intn(3)
	switch c.Intn(16) {
	case 0, 1:
		return api.Packet{Kind: api.Subscribe, Id: id, Subs: []api.Sub{c.sub(), c.sub()}, Props: []api.Prop{{Id: 11, N: id}}}
	case 2:
		return api.Packet{Kind: api.Unsubscribe, Id: id, Filters: []string{c.sub().Filter}}
	case 3:
		return api.Packet{Kind: api.Pingreq}
	case 4:
		return api.Packet{Kind: api.Pubrel, Id: id}
	case 5:
		if c.Intn(9) == 0 {
			return api.Packet{Kind: api.Puback + c.Intn(4), Id: id}
		}
		return api.Packet{Kind: api.Pubrec, Id: 99 + id, Reason: c.Intn(2) * 0x80}
	case 6:
		if c.Intn(9) == 0 {
			return api.Packet{Kind: api.Disconnect, Reason: c.Intn(2) * 4}
		}
	case 7, 8, 9, 10, 11:
		if l := c.w.Broker().Flights(client); len(l) > 0 {
			f := l[c.Intn(len(l))]
			p := api.Packet{Kind: []int{api.Puback, api.Pubrec, api.Pubcomp}[f.State-1], Id: f.Id}
			if f.State < 3 && c.Intn(3) == 0 {
				p.Reason = 0x80
			}
			return p
		}
	}
	p := api.Packet{Kind: api.Publish, Topic: c.of("t", "u", "t/u"), Payload: strings.Repeat("x", c.Intn(20)), Qos: qos, Id: id, Retain: c.Intn(4) == 0}
	if qos == 0 {
		p.Id = 0
	}
	if c.Intn(3) == 0 {
		p.Props = []api.Prop{{Id: 35, N: 1 + c.Intn(5)}, {Id: 2, N: c.Intn(9)}}
	}
	return p
}

// sub is any subscription.
func (c chance) sub() api.Sub {
	x := api.Sub{Filter: c.of("t", "#", "+/u", "t/#", "a#", "$share/g/t", "$share/g/#", "$share/h-g/#", "$share/l-g/#", "$share/x-g/t", "$share/s-g/+", "$share/g"), Qos: c.Intn(3), AsIs: c.Intn(2) == 0, Retain: c.Intn(3)}
	x.NoLocal = c.Intn(3) == 0 && !strings.HasPrefix(x.Filter, "$share/") || c.Intn(40) == 0
	return x
}

// Ru2: what a broker sends, on any connection, violates no rule.
func TestBrokerBreaksNone(t *testing.T) {
	conf := terms.Usual()
	conf.Conns, conf.Clients, conf.Receive, conf.Queue, conf.Group, conf.Out, conf.Disk, conf.Keep = 4, 3, 3, 3, 3, 300, 3000, 20
	seen := map[int]int{}
	for seed := range 400 {
		w, err := world.New(conf)
		if err != nil {
			t.Fatal(err)
		}
		c := chance{rand.New(rand.NewSource(int64(seed))), w}
		for range 300 {
			w.Step(c.event())
		}
		l := w.Log()
		for conn := range w.Conns() {
			all := world.Seen(conf, l, conn+1)
			for _, x := range all {
				if !x.In {
					seen[x.P.Kind]++
				}
			}
			if rule, at := rules.Check(all); rule != 0 || !rules.Clean(all) {
				t.Fatalf("seed %d: rule %d is broken, at %d of %+v", seed, rule, at, all)
			}
		}
	}
	for _, kind := range []int{0, api.Connack, api.Publish, api.Puback, api.Pubrec, api.Pubrel, api.Pubcomp, api.Suback, api.Unsuback, api.Pingresp, api.Disconnect} {
		if seen[kind] < 100 {
			t.Errorf("of kind %d, %d went out", kind, seen[kind])
		}
	}
}
