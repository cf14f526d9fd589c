package rules_test

import (
	"fmt"
	"math"
	"strings"
	"testing"

	"towncrier/api"
	"towncrier/rules"
)

// in is that a packet arrived, and out that it went out.
func in(p api.Packet) api.Seen { return api.Seen{In: true, P: p} }

// out is the other one.
func out(p api.Packet) api.Seen { return api.Seen{P: p} }

// bad is that bytes arrived that are no packet, and shut that the connection was closed.
func bad() api.Seen { return api.Seen{In: true, Bad: true} }

// shut is the other one.
func shut() api.Seen { return api.Seen{} }

// of is a packet of a kind, with a number and a reason.
func of(kind, id, reason int) api.Packet { return api.Packet{Kind: kind, Id: id, Reason: reason} }

// connect is a Connect with properties.
func connect(props ...api.Prop) api.Packet { return api.Packet{Kind: api.Connect, Props: props} }

// publish is a Publish of the topic t.
func publish(qos, id int, props ...api.Prop) api.Packet {
	return api.Packet{Kind: api.Publish, Topic: "t", Qos: qos, Id: id, Props: props}
}

// aliased is a Publish of a topic with an alias.
func aliased(topic string, n int) api.Packet {
	return api.Packet{Kind: api.Publish, Topic: topic, Props: []api.Prop{{Id: 35, N: n}}}
}

// greeted are a Connect that arrives and a Connack that goes out, and what is seen behind them.
func greeted(l ...api.Seen) []api.Seen {
	return append([]api.Seen{in(connect()), out(of(api.Connack, 0, 0))}, l...)
}

// breaks fails the test unless the last element is the first one that breaks a rule; rule 0: none does.
func breaks(t *testing.T, rule int, l ...api.Seen) {
	t.Helper()
	at := 0
	if rule > 0 {
		at = len(l) - 1
	}
	got, where := rules.Check(l)
	if got != rule || where != at || rules.Clean(l) != (rule == 0) {
		t.Errorf("Check(%+v) = %d, %d; want %d, %d", l, got, where, rule, at)
	}
	// What follows changes nothing, but for bytes that are no packet.
	if rule > 0 {
		if got, where := rules.Check(append(l, bad(), shut(), out(of(99, 0, 0)))); got != rule || where != at {
			t.Errorf("Check(%+v, and more) = %d, %d; want %d, %d", l, got, where, rule, at)
		}
	}
}

// closes fails the test unless what is Bad does not end the connection, and no packet breaks a rule.
func closes(t *testing.T, l []api.Seen) {
	t.Helper()
	if rule, at := rules.Check(l); rule != api.RuleClose || at != len(l) || rules.Clean(l) {
		t.Errorf("Check(%+v) = %d, %d", l, rule, at)
	}
}

// Ru1: the first one is a Connack; the chapter's example is a Pingresp.
func TestFirst(t *testing.T) {
	breaks(t, 0)
	breaks(t, 0, greeted()...)
	breaks(t, 0, out(of(api.Connack, 0, 0x80)))
	for _, kind := range []int{-1, 1, 3, 4, 5, 6, 7, 8, 9, 10, 11, 12, 13, 14, 15, 16, math.MinInt, math.MaxInt} {
		breaks(t, api.RuleFirst, out(of(kind, 1, 0)))
		breaks(t, api.RuleFirst, in(connect()), in(of(api.Pingreq, 0, 0)), in(publish(1, 1)), shut(), out(of(kind, 1, 0)))
	}
}

// Ru1: a Puback or Pubrec answers a Publish, each once.
func TestAck(t *testing.T) {
	breaks(t, 0, greeted(in(publish(1, 7)), out(of(api.Puback, 7, 0)))...)
	breaks(t, 0, greeted(in(publish(2, 7)), in(publish(2, 7)), in(publish(1, 8)), out(of(api.Puback, 8, 0x97)), out(of(api.Pubrec, 7, 0x10)), out(of(api.Pubrec, 7, 0)))...)
	breaks(t, api.RuleAck, greeted(out(of(api.Puback, 7, 0)))...)
	breaks(t, api.RuleAck, greeted(in(publish(1, 7)), out(of(api.Puback, 8, 0)))...)
	breaks(t, api.RuleAck, greeted(in(publish(1, 7)), out(of(api.Pubrec, 7, 0)))...)
	breaks(t, api.RuleAck, greeted(in(publish(2, 7)), out(of(api.Puback, 7, 0)))...)
	breaks(t, api.RuleAck, greeted(in(publish(0, 7)), out(of(api.Puback, 7, 0)))...)
	breaks(t, api.RuleAck, greeted(in(publish(1, 7)), out(of(api.Puback, 7, 0)), out(of(api.Puback, 7, 0)))...)
	breaks(t, api.RuleAck, greeted(out(publish(1, 7)), out(of(api.Puback, 7, 0)))...)
	breaks(t, api.RuleAck, greeted(out(of(api.Pubrec, 0, 0)))...)
}

// Ru1: a Pubcomp answers a Pubrel, each once.
func TestComp(t *testing.T) {
	breaks(t, 0, greeted(in(of(api.Pubrel, 7, 0)), in(of(api.Pubrel, 7, 0)), out(of(api.Pubcomp, 7, 0x92)), out(of(api.Pubcomp, 7, 0)))...)
	breaks(t, api.RuleComp, greeted(out(of(api.Pubcomp, 7, 0)))...)
	breaks(t, api.RuleComp, greeted(in(of(api.Pubrel, 7, 0)), out(of(api.Pubcomp, 8, 0)))...)
	breaks(t, api.RuleComp, greeted(in(of(api.Pubrel, 7, 0)), out(of(api.Pubcomp, 7, 0)), out(of(api.Pubcomp, 7, 0)))...)
	breaks(t, api.RuleComp, greeted(in(publish(2, 7)), out(of(api.Pubcomp, 7, 0)))...)
}

// Ru1: a Pubrel answers a Pubrec, unless the session was there.
func TestRel(t *testing.T) {
	breaks(t, 0, greeted(in(of(api.Pubrec, 7, 0)), in(of(api.Pubrec, 8, 0x10)), out(of(api.Pubrel, 8, 0)), out(of(api.Pubrel, 7, 0)))...)
	breaks(t, 0, greeted(in(of(api.Pubrec, 7, 0)), out(of(api.Pubrel, 7, 0)), out(of(api.Pubrel, 7, 0x92)))...)
	breaks(t, 0, greeted(in(of(api.Pubrec, 7, 0x80)), out(of(api.Pubrel, 7, 0x92)))...)
	breaks(t, api.RuleRel, greeted(out(of(api.Pubrel, 7, 0)))...)
	breaks(t, api.RuleRel, greeted(in(of(api.Pubrec, 7, 0)), out(of(api.Pubrel, 8, 0)))...)
	breaks(t, api.RuleRel, greeted(in(of(api.Pubrec, 7, 0x80)), out(of(api.Pubrel, 7, 0)))...)
	breaks(t, api.RuleRel, greeted(in(of(api.Pubrec, 7, 0)), out(of(api.Pubrel, 7, 0)), out(of(api.Pubrel, 7, 0)))...)
	breaks(t, api.RuleRel, greeted(in(of(api.Pubrec, 7, 0)), out(of(api.Pubrel, 7, 0x92)), out(of(api.Pubrel, 7, 0x92)))...)
	breaks(t, api.RuleRel, greeted(in(of(api.Pubrec, 7, 0)), out(of(api.Pubrel, 8, 0x92)))...)
	present := of(api.Connack, 0, 0)
	present.Present = true
	back := []api.Seen{in(connect()), out(present), out(of(api.Pubrel, 7, 0)), out(of(api.Pubrel, 7, 0))}
	breaks(t, 0, back...)
	breaks(t, api.RuleRel, append(back, out(of(api.Pubrel, 7, 0x92)))...)
}

// Ru1: the number of a Publish is in transit to the client until it is acknowledged.
func TestId(t *testing.T) {
	breaks(t, 0, greeted(out(publish(1, 7)), out(publish(2, 8)), out(publish(0, 0)), out(publish(0, 0)))...)
	for _, a := range []int{1, 2} {
		for _, b := range []int{1, 2} {
			breaks(t, api.RuleId, greeted(out(publish(a, 7)), out(publish(b, 7)))...)
			ends := in(of(api.Puback, 7, 0))
			if a == 2 {
				ends = in(of(api.Pubcomp, 7, 0))
			}
			breaks(t, 0, greeted(out(publish(a, 7)), ends, out(publish(b, 7)))...)
		}
	}
	breaks(t, 0, greeted(out(publish(1, 7)), in(of(api.Puback, 7, 0x80)), out(publish(1, 7)))...)
	breaks(t, 0, greeted(out(publish(2, 7)), in(of(api.Pubrec, 7, 0x80)), out(publish(1, 7)))...)
	breaks(t, api.RuleId, greeted(out(publish(2, 7)), in(of(api.Pubrec, 7, 0)), out(publish(1, 7)))...)
	breaks(t, api.RuleId, greeted(out(publish(2, 7)), in(of(api.Puback, 7, 0)), out(publish(1, 7)))...)
	breaks(t, api.RuleId, greeted(out(publish(1, 7)), in(of(api.Pubrec, 7, 0x80)), in(of(api.Pubcomp, 7, 0)), in(of(api.Puback, 8, 0)), out(publish(1, 7)))...)
	breaks(t, 0, greeted(in(publish(1, 7)), out(publish(1, 7)))...)
}

// Ru1: no more are in transit than the client takes, as its first Connect says.
func TestReceive(t *testing.T) {
	two := []api.Seen{in(connect(api.Prop{Id: 33, N: 2})), in(connect(api.Prop{Id: 33, N: 9})), out(of(api.Connack, 0, 0)), out(publish(1, 1)), out(publish(0, 0)), out(publish(2, 2))}
	breaks(t, 0, two...)
	breaks(t, api.RuleReceive, append(two, out(publish(1, 3)))...)
	breaks(t, api.RuleReceive, append(two, in(of(api.Pubrec, 2, 0)), out(publish(1, 3)))...)
	breaks(t, 0, append(two, out(publish(0, 0)))...)
	breaks(t, 0, append(two, in(of(api.Pubrec, 2, 0x80)), out(publish(1, 3)))...)
	breaks(t, api.RuleId, append(two, out(publish(1, 2)))...)
	l := greeted()
	for id := range 65535 {
		l = append(l, out(publish(1, id+1)))
	}
	breaks(t, 0, l...)
	breaks(t, api.RuleReceive, append(l, out(publish(1, 70000)))...)
}

// Ru1: nothing is larger than the client takes, once it is welcome, or that has no bytes.
func TestSize(t *testing.T) {
	small := in(connect(api.Prop{Id: 39, N: 10}))
	welcome := []api.Seen{small, out(of(api.Connack, 0, 0))}
	long := func(n int) api.Packet {
		return api.Packet{Kind: api.Publish, Topic: "t", Payload: strings.Repeat("x", n)}
	}
	breaks(t, 0, append(welcome, out(long(4)))...)
	breaks(t, api.RuleSize, append(welcome, out(long(5)))...)
	fat := of(api.Connack, 0, 0)
	fat.Props = []api.Prop{{Id: 18, S: "xxxx"}}
	breaks(t, api.RuleSize, small, out(fat))
	fat.Reason = 0x80
	breaks(t, 0, small, out(fat))
	breaks(t, api.RuleSize, append(welcome, out(fat))...)
	for _, p := range []api.Packet{publish(3, 1), publish(1, 0), {Kind: 16}, {Kind: -1}, {Kind: api.Disconnect, Reason: 0x97, Props: []api.Prop{{Id: 1}}}, {Kind: api.Suback, Id: 1}} {
		breaks(t, api.RuleSize, greeted(out(p))...)
	}
	breaks(t, api.RuleSize, in(connect()), out(api.Packet{Kind: api.Connack, Props: []api.Prop{{Id: 1}}}))
	// Of two rules, it is the least one.
	for _, x := range []struct{ kind, rule int }{{api.Puback, api.RuleAck}, {api.Pubrec, api.RuleAck}, {api.Pubcomp, api.RuleComp}, {api.Pubrel, api.RuleRel}, {api.Unsuback, api.RuleSize}, {api.Disconnect, api.RuleSize}} {
		breaks(t, x.rule, append(welcome, out(large(of(x.kind, 7, 0))))...)
	}
}

// large is a packet with a property that makes it large.
func large(p api.Packet) api.Packet {
	p.Props = []api.Prop{{Id: 31, S: "because"}}
	return p
}

// Ru1: the topic of a Publish is told, by an alias that the client takes.
func TestAlias(t *testing.T) {
	three := []api.Seen{in(connect(api.Prop{Id: 34, N: 3})), out(of(api.Connack, 0, 0)), out(aliased("t", 3)), out(aliased("", 3)), out(publish(0, 0)), out(aliased("u", 3)), out(aliased("", 3)), out(aliased("u", 1))}
	breaks(t, 0, three...)
	breaks(t, api.RuleAlias, append(three, out(aliased("", 2)))...)
	breaks(t, api.RuleAlias, append(three, out(aliased("t", 4)))...)
	breaks(t, api.RuleAlias, append(three, out(api.Packet{Kind: api.Publish}))...)
	breaks(t, api.RuleAlias, append(three, in(aliased("u", 2)), out(aliased("", 2)))...)
	breaks(t, api.RuleAlias, greeted(out(aliased("t", 1)))...)
	breaks(t, api.RuleAlias, greeted(out(publish(0, 0)), out(api.Packet{Kind: api.Publish}))...)
}

// Ru1: a Suback or Unsuback answers all that was asked.
func TestSub(t *testing.T) {
	asks := in(api.Packet{Kind: api.Subscribe, Id: 7, Subs: make([]api.Sub, 2)})
	gives := in(api.Packet{Kind: api.Unsubscribe, Id: 7, Filters: make([]string, 2)})
	codes := func(kind, id, n int) api.Seen { return out(api.Packet{Kind: kind, Id: id, Codes: make([]int, n)}) }
	breaks(t, 0, greeted(asks, gives, codes(api.Unsuback, 7, 2), codes(api.Suback, 7, 2))...)
	breaks(t, api.RuleSub, greeted(asks, codes(api.Unsuback, 7, 2))...)
	breaks(t, api.RuleSub, greeted(gives, codes(api.Suback, 7, 2))...)
	breaks(t, api.RuleSub, greeted(asks, codes(api.Suback, 8, 2))...)
	breaks(t, api.RuleSub, greeted(asks, codes(api.Suback, 7, 1))...)
	breaks(t, api.RuleSub, greeted(asks, codes(api.Suback, 7, 3))...)
	breaks(t, api.RuleSub, greeted(asks, codes(api.Suback, 7, 2), codes(api.Suback, 7, 2))...)
	breaks(t, 0, greeted(asks, asks, in(api.Packet{Kind: api.Subscribe, Id: 7, Subs: make([]api.Sub, 1)}), codes(api.Suback, 7, 2), codes(api.Suback, 7, 1), codes(api.Suback, 7, 2))...)
}

// Ru1: a Pingresp answers a Pingreq, each once.
func TestPing(t *testing.T) {
	ping, pong := in(of(api.Pingreq, 0, 0)), out(of(api.Pingresp, 0, 0))
	breaks(t, 0, greeted(ping, ping, pong, pong, ping, pong)...)
	breaks(t, api.RulePing, greeted(pong)...)
	breaks(t, api.RulePing, greeted(ping, pong, pong)...)
	breaks(t, 0, append([]api.Seen{ping}, greeted(pong)...)...)
}

// Ru1: nothing goes out behind the last one.
func TestLast(t *testing.T) {
	for _, last := range []api.Seen{out(of(api.Disconnect, 0, 0x82)), out(of(api.Disconnect, 0, 0)), shut()} {
		breaks(t, 0, greeted(last)...)
		breaks(t, 0, greeted(last, in(of(api.Pingreq, 0, 0)))...)
		breaks(t, api.RuleLast, greeted(last, out(publish(0, 0)))...)
		breaks(t, api.RuleLast, greeted(in(of(api.Pingreq, 0, 0)), last, out(of(api.Pingresp, 0, 0)))...)
		breaks(t, api.RuleLast, greeted(last, out(of(api.Disconnect, 0, 0)))...)
		breaks(t, api.RulePing, greeted(last, out(of(api.Pingresp, 0, 0)))...)
		breaks(t, api.RuleLast, greeted(last, out(of(api.Auth, 0, 0x18)))...)
	}
	breaks(t, api.RuleLast, out(of(api.Connack, 0, 0x80)), out(publish(0, 0)))
	breaks(t, api.RuleLast, out(of(api.Connack, 0, 0x80)), out(of(api.Connack, 0, 0)))
	breaks(t, api.RuleLast, shut(), out(of(api.Connack, 0, 0)))
	breaks(t, api.RuleLast, greeted(out(of(api.Connack, 0, 0)))...)
	breaks(t, api.RuleLast, greeted(out(of(api.Connack, 0, 0x80)))...)
	breaks(t, 0, greeted(shut(), shut(), in(connect()))...)
}

// Ru1: bytes that are no packet end the connection.
func TestClose(t *testing.T) {
	for _, l := range [][]api.Seen{{bad()}, greeted(bad()), greeted(bad(), out(of(api.Disconnect, 0, 0x81))), greeted(shut(), bad()), greeted(bad(), shut(), bad()), {bad(), out(of(api.Connack, 0, 0x81))}} {
		closes(t, l)
		breaks(t, 0, append(l, shut())...)
		breaks(t, 0, append(l, shut(), in(publish(1, 1)))...)
	}
	// A rule that a packet breaks comes first.
	if rule, at := rules.Check(greeted(bad(), out(of(api.Pingresp, 0, 0)))); rule != api.RulePing || at != 3 {
		t.Errorf("Check = %d, %d", rule, at)
	}
	// What a Connect says behind them does not count.
	breaks(t, 0, bad(), in(connect(api.Prop{Id: 39, N: 5}, api.Prop{Id: 33, N: 1})), out(of(api.Connack, 0, 0)), out(publish(1, 1)), out(publish(1, 2)), shut())
}

// Ru1: what is neither In nor without a kind is sent, also if it is Bad, and is held against the rules.
func TestBadIsSent(t *testing.T) {
	marked := func(p api.Packet) api.Seen { return api.Seen{Bad: true, P: p} }
	breaks(t, api.RuleFirst, marked(of(api.Pingresp, 0, 0)))
	breaks(t, api.RulePing, greeted(marked(of(api.Pingresp, 0, 0)))...)
	breaks(t, api.RuleAck, greeted(marked(of(api.Puback, 1, 0)))...)
	breaks(t, api.RuleSize, greeted(marked(of(16, 0, 0)))...)
	breaks(t, api.RuleKind, greeted(marked(of(api.Pingreq, 0, 0)))...)
	breaks(t, api.RuleLast, greeted(bad(), shut(), marked(of(api.Disconnect, 0, 0)))...)
	if rule, at := rules.Check(greeted(marked(of(api.Puback, 1, 0)), shut())); rule != api.RuleAck || at != 2 {
		t.Errorf("Check = %d, %d", rule, at)
	}
	// It counts as sent,
	breaks(t, api.RuleLast, in(connect()), marked(of(api.Connack, 0, 0)), out(of(api.Connack, 0, 0)))
	breaks(t, api.RuleId, greeted(marked(publish(1, 7)), out(publish(1, 7)))...)
	breaks(t, api.RulePing, greeted(in(of(api.Pingreq, 0, 0)), marked(of(api.Pingresp, 0, 0)), out(of(api.Pingresp, 0, 0)))...)
	breaks(t, api.RuleLast, greeted(marked(of(api.Disconnect, 0, 0)), out(of(api.Disconnect, 0, 0)))...)
	// and as Bad: the connection is to be closed behind it, and what a Connect says does not count any more.
	for _, l := range [][]api.Seen{{in(connect()), marked(of(api.Connack, 0, 0))}, greeted(marked(publish(0, 0))), greeted(marked(publish(1, 7)), in(of(api.Puback, 7, 0)), out(publish(1, 7)))} {
		closes(t, l)
		breaks(t, 0, append(l, shut())...)
	}
	breaks(t, 0, marked(of(api.Connack, 0, 0)), in(connect(api.Prop{Id: 33, N: 1})), out(publish(1, 1)), out(publish(1, 2)), shut())
}

// Ru1: what is Bad and In is no packet; what is Bad without being In or having a kind is the end, but does not follow itself.
func TestBadIsNotSent(t *testing.T) {
	arrived := func(p api.Packet) api.Seen { return api.Seen{In: true, Bad: true, P: p} }
	closes(t, greeted(arrived(of(api.Pingreq, 0, 0))))
	breaks(t, api.RulePing, greeted(arrived(of(api.Pingreq, 0, 0)), out(of(api.Pingresp, 0, 0)))...)
	breaks(t, 0, arrived(connect(api.Prop{Id: 39, N: 1})), out(of(api.Connack, 0, 0)), shut())
	ended := api.Seen{Bad: true}
	closes(t, []api.Seen{ended})
	closes(t, greeted(bad(), shut(), ended))
	breaks(t, 0, greeted(ended, shut())...)
	breaks(t, api.RuleLast, greeted(ended, out(of(api.Disconnect, 0, 0)))...)
}

// Ru1: only a server's packets go out.
func TestKind(t *testing.T) {
	for _, p := range []api.Packet{connect(), {Kind: api.Subscribe, Id: 1, Subs: []api.Sub{{Filter: "t"}}}, {Kind: api.Unsubscribe, Id: 1, Filters: []string{"t"}}, {Kind: api.Pingreq}} {
		breaks(t, api.RuleKind, greeted(out(p))...)
		breaks(t, api.RuleLast, greeted(shut(), out(p))...)
	}
	breaks(t, 0, greeted(out(of(api.Auth, 0, 0x18)))...)
	// Without a welcome, a packet may have no bytes; of no kind, it is not a server's.
	for _, kind := range []int{-1, 16, math.MaxInt, math.MinInt} {
		breaks(t, api.RuleLast, out(of(api.Connack, 0, 0x80)), out(of(kind, 0, 0)))
		breaks(t, api.RuleFirst, out(of(kind, 0, 0)))
	}
}

// R3: what is passed is not changed.
func TestListsStay(t *testing.T) {
	l := greeted(in(publish(1, 1)), out(of(api.Puback, 1, 0)), shut())
	before := fmt.Sprint(l)
	rules.Check(l)
	if fmt.Sprint(l) != before {
		t.Errorf("the list became %v", l)
	}
}
