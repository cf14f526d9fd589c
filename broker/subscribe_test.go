package broker_test

import (
	"strings"
	"testing"

	"towncrier/api"
)

// asks is a Subscribe of subscriptions, with an identifier if it is positive.
func asks(id int, l ...api.Sub) api.Packet {
	p := api.Packet{Kind: api.Subscribe, Id: 9, Subs: l}
	if id > 0 {
		p.Props = []api.Prop{{Id: 11, N: id}}
	}
	return p
}

// Br5: there is a code for each subscription.
func TestSubscribe(t *testing.T) {
	r := with(t, nil)
	r.clients("a")
	r.in(0, asks(0, api.Sub{Filter: "a/#", Qos: 2}, api.Sub{Filter: "a#", Qos: 1}, api.Sub{Filter: "$share/g/t", Qos: 1}, api.Sub{Filter: "$share/g", NoLocal: true}, api.Sub{Filter: "", Qos: 1}, api.Sub{Filter: "b"}))
	r.gets(0, "suback #9 [2 143 1 143 143 0]")
	is(t, "filters", strings.Join(r.Filters("a"), " "), "$share/g/t a/# b")
	is(t, "groups", strings.Join(r.Keys(), " "), "g/t")
	l := r.Members("g/t")
	if len(l) != 1 || l[0] != (api.Member{Client: "a", Since: 1, Qos: 1, Online: true}) {
		t.Errorf("members are %+v", l)
	}
	r.in(0, asks(0, api.Sub{Filter: "$share/g/t", Qos: 2}, api.Sub{Filter: "$share/h/t", Qos: 2}))
	r.gets(0, "suback #9 [2 2]")
	if l = r.Members("g/t"); len(l) != 1 || l[0].Qos != 2 {
		t.Errorf("members are %+v", l)
	}
	r.in(0, asks(0, api.Sub{Filter: "x", Qos: 2}, api.Sub{Filter: "$share/h/u", NoLocal: true}), ack(api.Pingreq, 0, 0))
	r.gets(0, "disconnect 0x82")
	is(t, "filters", strings.Join(r.Filters("a"), " "), "$share/g/t $share/h/t a/# b")
	is(t, "groups", strings.Join(r.Keys(), " "), "g/t h/t")
}

// Br5: who unsubscribes is told whether it had subscribed.
func TestUnsubscribe(t *testing.T) {
	r := with(t, nil)
	r.clients("a", "b")
	r.subs(0, 1, "t", "$share/g/t", "u")
	r.in(0, api.Packet{Kind: api.Unsubscribe, Id: 5, Filters: []string{"t", "t", "$share/g/t", "v", "$share/g/u", "a#"}})
	r.gets(0, "unsuback #5 [0 17 0 17 17 17]")
	is(t, "filters", strings.Join(r.Filters("a"), " "), "u")
	is(t, "groups", len(r.Keys()), 0)
	r.in(1, publish("t", "x", 0, 0), publish("u", "x", 0, 0))
	r.gets(0, "publish u:x")
}

// Br5: who leaves a group while messages are in transit to it lets them wait.
func TestUnsubscribeInTransit(t *testing.T) {
	r := with(t, nil)
	r.clients("a", "b")
	r.subs(0, 1, "$share/g/t")
	r.subs(1, 1, "$share/g/t")
	r.in(1, publish("t", "x", 0, 0), publish("t", "y", 1, 1))
	r.gets(0, "publish t:x")
	r.in(0, publish("t", "z", 1, 1))
	r.gets(0, "publish #1 t:z q1")
	r.gets(1, "publish #1 t:y q1")
	r.in(0, api.Packet{Kind: api.Unsubscribe, Id: 5, Filters: []string{"$share/g/t"}})
	r.gets(0, "unsuback #5 [0]")
	r.gets(1, "publish #2 t:z q1 dup")
	r.in(0, ack(api.Puback, 1, 0))
	is(t, "the group", r.queue("g/t"), "y@b* z@b*")
}

// Br5: who subscribes gets the retained messages, by the options of its subscription.
func TestRetained(t *testing.T) {
	r := with(t, nil)
	r.clients("a", "b")
	r.in(0, kept("t/a", "x", 1, 1, api.Prop{Id: 3, S: "y"}), kept("t/b", "y", 0, 0), kept("u", "z", 2, 2), publish("t/c", "w", 0, 0), kept("t/d", "v", 0, 0), kept("t/d", "", 0, 0))
	r.Drain(0, 1<<20)
	r.in(1, asks(7, api.Sub{Filter: "t/#", Qos: 2}, api.Sub{Filter: "$share/g/#"}, api.Sub{Filter: "+", Qos: 1, Retain: 2}))
	r.gets(1, "suback #9 [2 0 1]", "publish #1 t/a:x q1 retain 3=0y 11=7", "publish t/b:y retain 11=7")
	r.in(1, ack(api.Puback, 1, 0))
	r.in(1, asks(0, api.Sub{Filter: "t/#", Qos: 0, Retain: 1}, api.Sub{Filter: "u", Qos: 1, Retain: 1}, api.Sub{Filter: "u", Qos: 1, Retain: 1}))
	r.gets(1, "suback #9 [0 1 1]", "publish #2 u:z q1 retain")
	r.in(1, ack(api.Puback, 2, 0))
	r.in(1, asks(0, api.Sub{Filter: "t/#", Qos: 0}, api.Sub{Filter: "u", Qos: 2, NoLocal: true}, api.Sub{Filter: "u+"}))
	r.gets(1, "suback #9 [0 2 143]", "publish t/a:x retain 3=0y", "publish t/b:y retain", "publish #3 u:z q2 retain")
	r.in(0, asks(0, api.Sub{Filter: "u", NoLocal: true}))
	r.gets(0, "suback #9 [0]", "publish u:z retain")
}

// Br5: of retained messages, there is room for a certain number.
func TestRetainedRoom(t *testing.T) {
	r := with(t, func(c *api.Config) { c.Retained = 1 })
	r.clients("a")
	r.in(0, kept("t", "x", 0, 0), kept("u", "y", 0, 0), kept("t", "z", 0, 0))
	is(t, "retained", topics(r.Retained("#")), "t:z")
}

// Br4: each client gets a message once, by the greatest QoS of its subscriptions, with the identifiers of all of them.
func TestRoute(t *testing.T) {
	r := with(t, nil)
	r.clients("a", "b", "c")
	r.in(1, asks(5, api.Sub{Filter: "t/#", Qos: 0, AsIs: true}), asks(3, api.Sub{Filter: "+/a", Qos: 1}), asks(0, api.Sub{Filter: "t/+", Qos: 0}))
	r.gets(1, "suback #9 [0]", "suback #9 [1]", "suback #9 [0]")
	r.in(2, asks(268435455, api.Sub{Filter: "t/a", Qos: 2}))
	r.gets(2, "suback #9 [2]")
	r.in(0, kept("t/a", "x", 2, 1, api.Prop{Id: 3, S: "y"}))
	r.gets(1, "publish #1 t/a:x q1 retain 3=0y 11=3 11=5")
	r.gets(2, "publish #1 t/a:x q2 3=0y 11=268435455")
	r.in(0, kept("t/b", "x", 2, 2))
	r.gets(1, "publish t/b:x retain 11=5")
	r.in(0, publish("t/b", "x", 0, 0), publish("u/a", "x", 1, 3), publish("t/a", "y", 1, 4))
	r.gets(1, "publish t/b:x 11=5", "publish #2 u/a:x q1 11=3", "publish #3 t/a:y q1 11=3 11=5")
	r.gets(2, "publish #2 t/a:y q1 11=268435455")
}

// Br4: who does not want its own messages does not get them, but those of others.
func TestNoLocal(t *testing.T) {
	r := with(t, nil)
	r.clients("a", "b")
	r.in(0, asks(1, api.Sub{Filter: "t", Qos: 2, NoLocal: true, AsIs: true}), asks(2, api.Sub{Filter: "u/+", Qos: 1, NoLocal: true}), asks(3, api.Sub{Filter: "u/a", Qos: 0}))
	r.gets(0, "suback #9 [2]", "suback #9 [1]", "suback #9 [0]")
	r.in(0, publish("t", "x", 1, 1), publish("u/a", "x", 1, 2), publish("u/b", "x", 2, 3))
	r.gets(0, "puback #1 0x10", "puback #2", "pubrec #3 0x10", "publish u/a:x 11=3")
	r.in(1, publish("t", "x", 1, 1), publish("u/a", "x", 1, 2))
	r.gets(0, "publish #1 t:x q1 11=1", "publish #2 u/a:x q1 11=2 11=3")
	// So it is with wills.
	r.join(2, willed("c", api.Last{Topic: "t"}))
	r.in(2, asks(0, api.Sub{Filter: "t", NoLocal: true}))
	r.Drop(2)
	r.gets(0, "publish t: 11=1")
}
