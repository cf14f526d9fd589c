package broker_test

import (
	"fmt"
	"strings"
	"testing"

	"towncrier/api"
	"towncrier/broker"
	"towncrier/store"
	"towncrier/wal"
)

// Br4: a topic may be told by an alias; one that is not valid ends the connection.
func TestTopics(t *testing.T) {
	alias := func(n int) api.Prop { return api.Prop{Id: 35, N: n} }
	for _, x := range []struct {
		p    api.Packet
		want string
	}{
		{publish("u", "y", 0, 0, alias(5)), "0x94"}, {publish("", "y", 0, 0, alias(3)), "0x82"}, {publish("", "y", 0, 0), "0x82"}, {publish("a/+", "y", 0, 0), "0x90"}, {publish("#", "y", 1, 7, alias(1)), "0x90"}, {publish(strings.Repeat("/", 32), "y", 2, 7), "0x90"},
	} {
		r := with(t, nil)
		r.clients("a", "b")
		r.subs(1, 0, "#")
		r.in(0, publish("t", "x", 0, 0, alias(4), api.Prop{Id: 38, S: "v"}), publish("", "y", 0, 0, alias(4)), publish("u", "y", 0, 0, alias(4)), publish("", "z", 0, 0, alias(4)), x.p, ack(api.Pingreq, 0, 0))
		r.gets(1, "publish t:x 38=0v", "publish t:y", "publish u:y", "publish u:z")
		r.gets(0, "disconnect "+x.want)
		is(t, "IsOpen", r.IsOpen(0), false)
	}
}

// Br4: who publishes is told whether anybody subscribed.
func TestAnswers(t *testing.T) {
	r := with(t, nil)
	r.clients("a", "b")
	r.in(0, publish("t", "x", 0, 0), publish("t", "x", 1, 1), publish("t", "x", 2, 2))
	r.gets(0, "puback #1 0x10", "pubrec #2 0x10")
	r.subs(1, 0, "t")
	r.in(0, publish("t", "x", 1, 1), publish("t", "x", 2, 4), publish("t", "y", 2, 3))
	r.gets(0, "puback #1", "pubrec #4", "pubrec #3")
	r.gets(1, "publish t:x", "publish t:x", "publish t:y")
}

// Br4: a message of QoS 2 is routed once, until it is released.
func TestExactlyOnce(t *testing.T) {
	r := with(t, nil)
	r.clients("a", "b")
	r.subs(1, 0, "t")
	r.in(0, publish("t", "x", 2, 7))
	r.in(0, publish("t", "other", 2, 7))
	r.gets(0, "pubrec #7", "pubrec #7")
	r.Drop(0)
	r.join(0, lasting("a"))
	again := publish("t", "x", 2, 7)
	again.Dup = true
	r.in(0, again)
	r.in(0, ack(api.Pubrel, 7, 0), ack(api.Pubrel, 7, 0))
	r.gets(0, "pubrec #7", "pubcomp #7", "pubcomp #7 0x92")
	r.in(0, publish("t", "y", 2, 7))
	r.gets(0, "pubrec #7")
	r.gets(1, "publish t:x", "publish t:y")
}

// Br4: a number that is in use, and more messages than may be sent ahead, end the connection.
func TestNumbers(t *testing.T) {
	for _, l := range [][]api.Packet{
		{publish("t", "x", 2, 1), publish("t", "x", 1, 1)}, {publish("t", "x", 2, 1), publish("t", "x", 2, 2), publish("t", "x", 2, 3)}, {publish("t", "x", 2, 1), publish("t", "x", 2, 2), publish("t", "x", 1, 3)},
	} {
		r := with(t, func(c *api.Config) { c.Receive = 2 })
		r.clients("a", "b")
		r.in(1, subscribe(0, "u"))
		r.gets(1, "suback #99 [0]")
		l[len(l)-1].Topic = "u"
		r.in(0, l...)
		r.gets(1)
		want := []string{"pubrec #1 0x10", "disconnect 0x82"}
		if len(l) == 3 {
			want = []string{"pubrec #1 0x10", "pubrec #2 0x10", "disconnect 0x93"}
		}
		r.gets(0, want...)
		is(t, "IsOpen", r.IsOpen(0), false)
	}
}

// Br4: an answer to a message of a group waits for the journal, and all answers behind it wait, too; example 5 of the whole.
func TestAnswersWait(t *testing.T) {
	r := with(t, func(c *api.Config) { c.Receive = 4 })
	r.clients("a", "b")
	r.subs(1, 2, "$share/g/t", "u")
	r.in(0, publish("u", "x", 1, 1), publish("t", "x", 0, 0), publish("u", "x", 1, 2))
	r.gets(0, "puback #1", "puback #2")
	r.in(0, publish("t", "y", 1, 3), publish("u", "x", 1, 4), publish("v", "x", 2, 5), ack(api.Pingreq, 0, 0), publish("t", "z", 2, 6))
	r.gets(0, "pingresp")
	is(t, "Waits", r.Waits(), true)
	r.Sync()
	r.gets(0, "puback #3", "puback #4", "pubrec #5 0x10", "pubrec #6")
	is(t, "Waits", r.Waits(), false)
	// Of a message that came already, the answer waits as long as the journal does.
	r.in(0, publish("t", "z", 2, 6))
	r.gets(0, "pubrec #6")
	r.in(0, publish("t", "w", 1, 7), publish("t", "z", 2, 6))
	r.gets(0)
	r.Sync()
	r.gets(0, "puback #7", "pubrec #6")
	r.in(0, publish("t", "w", 1, 7))
	r.in(0, publish("t", "w", 1, 7))
	r.gets(0, "disconnect 0x82")
}

// Br4: when a connection ends, the numbers of Pubacks that are owed are free, those of Pubrecs are not.
func TestOwedAtTheEnd(t *testing.T) {
	r := with(t, nil)
	r.clients("a", "b")
	r.subs(1, 0, "$share/g/t")
	r.in(0, publish("t", "x", 1, 1), publish("t", "y", 2, 2))
	r.Drop(0)
	r.join(0, lasting("a"))
	r.Sync()
	r.gets(0)
	r.in(0, publish("t", "x", 1, 1), publish("t", "y", 2, 2))
	r.Sync()
	r.gets(0, "puback #1", "pubrec #2")
	r.gets(1, "publish t:x", "publish t:y", "publish t:x")
}

// Br4: a queue that is full: nobody gets the message, nor do ordinary subscribers; example 4 of the whole.
func TestFullGroup(t *testing.T) {
	r := with(t, func(c *api.Config) { c.Group, c.Receive = 1, 2 })
	r.clients("a", "b")
	r.subs(1, 1, "$share/g/#", "#")
	r.in(1, ack(api.Puback, 1, 0))
	r.in(0, publish("t", "x", 1, 1))
	r.Sync()
	r.gets(0, "puback #1")
	r.gets(1, "publish #1 t:x q1", "publish #2 t:x q1")
	r.in(0, kept("u", "y", 1, 1), publish("t", "z", 2, 2), publish("t", "z", 2, 3))
	r.gets(0, "puback #1 0x97", "pubrec #2 0x97", "pubrec #3 0x97")
	is(t, "retained", topics(r.Retained("#")), "u:y")
	r.in(0, ack(api.Pubrel, 2, 0), publish("t", "w", 0, 0))
	r.gets(0, "pubcomp #2 0x92")
	r.gets(1, "publish t:w")
	is(t, "the group", r.queue("g/#"), "x@b*")
}

// Br4: an error of the journal means that nobody gets the message.
func TestFullJournal(t *testing.T) {
	r := with(t, func(c *api.Config) { c.Disk = 100 })
	r.clients("a", "b")
	r.subs(1, 1, "$share/g/#")
	r.in(0, publish("t", strings.Repeat("x", 99), 1, 1), publish("t", strings.Repeat("x", 9), 1, 2))
	r.gets(0, "puback #1 0x97")
	r.Sync()
	r.gets(0, "puback #2")
	is(t, "the group", r.queue("g/#"), "xxxxxxxxx@b*")
}

// Br4: when there are no more numbers, nobody gets the message, and its answer does not wait.
func TestNoNumbers(t *testing.T) {
	r := with(t, nil)
	for _, s := range store.Rewrite(nil, api.MaxSeq-1) {
		wal.Open(r.d).Append(s)
	}
	r.Broker, _ = broker.New(rigBounds(), r.d, 0)
	r.clients("a", "b")
	r.subs(1, 1, "$share/g/#", "#")
	r.in(0, publish("t", "x", 1, 1), publish("t", "y", 1, 2), publish("t", "z", 2, 3), publish("t", "w", 0, 0))
	r.gets(1, "publish #1 t:x q1", "publish #2 t:x q1")
	r.gets(0)
	r.Sync()
	r.gets(0, "puback #1", "puback #2 0x83", "pubrec #3 0x83")
	r.in(0, publish("t", "y", 1, 2))
	r.gets(0, "puback #2 0x83")
}

// Br4: an answer that is bad frees its number, when it is paid.
func TestBadPubrec(t *testing.T) {
	r := with(t, func(c *api.Config) { c.Group, c.Receive = 1, 3 })
	r.clients("a", "b")
	r.subs(1, 2, "$share/g/#")
	r.in(0, publish("t", "x", 2, 1), publish("t", "y", 2, 2), publish("t", "z", 2, 3))
	r.gets(0)
	r.Sync()
	r.gets(0, "pubrec #1", "pubrec #2 0x97", "pubrec #3 0x97")
	r.in(0, ack(api.Pubrel, 1, 0), ack(api.Pubrel, 2, 0), publish("t", "z", 1, 3), publish("t", "z", 1, 2))
	r.gets(0, "pubcomp #1", "pubcomp #2 0x92", "puback #3 0x97", "puback #2 0x97")
}

// Br4: acknowledgements of what is in transit.
func TestAcknowledge(t *testing.T) {
	for _, x := range []struct {
		p    api.Packet
		want string
		left int
	}{
		{ack(api.Puback, 1, 0), "", 2}, {ack(api.Puback, 1, 0x80), "", 2}, {ack(api.Pubrec, 2, 0), "pubrel #2", 3}, {ack(api.Pubrec, 2, 0x80), "", 2}, {ack(api.Pubcomp, 3, 0x92), "", 2},
		{ack(api.Puback, 9, 0), "", 3}, {ack(api.Pubrec, 9, 0), "pubrel #9 0x92", 3}, {ack(api.Pubrec, 9, 0x80), "pubrel #9 0x92", 3}, {ack(api.Pubcomp, 9, 0), "", 3},
		{ack(api.Puback, 2, 0), "disconnect 0x82", 3}, {ack(api.Puback, 3, 0), "disconnect 0x82", 3}, {ack(api.Pubrec, 1, 0), "disconnect 0x82", 3}, {ack(api.Pubrec, 3, 0), "disconnect 0x82", 3}, {ack(api.Pubcomp, 1, 0), "disconnect 0x82", 3}, {ack(api.Pubcomp, 2, 0), "disconnect 0x82", 3},
	} {
		r := with(t, nil)
		r.clients("a", "b")
		r.subs(1, 2, "t")
		r.in(0, publish("t", "x", 1, 1), publish("t", "y", 2, 2), publish("t", "z", 2, 3))
		r.in(1, ack(api.Pubrec, 3, 0))
		r.gets(1, "publish #1 t:x q1", "publish #2 t:y q2", "publish #3 t:z q2", "pubrel #3")
		r.in(1, x.p)
		if x.want != "" {
			r.gets(1, x.want)
		} else {
			r.gets(1)
		}
		is(t, fmt.Sprintf("%+v: in transit", x.p), len(r.Flights("b")), x.left)
		is(t, fmt.Sprintf("%+v: open", x.p), r.IsOpen(1), !strings.HasPrefix(x.want, "disconnect"))
	}
}

// Br4: what a member acknowledges is done, and what it refuses goes to another one; example 3 of the whole.
func TestGroupAcknowledges(t *testing.T) {
	r := with(t, nil)
	r.clients("p", "a", "b")
	r.subs(1, 2, "$share/g/t")
	r.subs(2, 2, "$share/g/t")
	r.in(0, publish("t", "x", 1, 1), publish("t", "y", 2, 2))
	r.gets(1, "publish #1 t:x q1")
	r.gets(2, "publish #1 t:y q2")
	r.in(1, ack(api.Puback, 1, 0x80))
	is(t, "the group", r.queue("g/t"), "x@b* y@b*")
	r.gets(1)
	r.gets(2, "publish #2 t:x q1 dup")
	r.in(2, ack(api.Pubrec, 1, 0))
	r.gets(2, "pubrel #1")
	is(t, "the group", r.queue("g/t"), "x@b*")
	r.in(2, ack(api.Puback, 2, 0x97))
	r.gets(2)
	r.gets(1, "publish #2 t:x q1 dup")
	r.in(1, ack(api.Puback, 2, 0))
	is(t, "the group", r.queue("g/t"), "")
	is(t, "in transit", len(r.Flights("a"))+len(r.Flights("b")), 1)
	r.in(2, ack(api.Pubcomp, 1, 0))
	is(t, "in transit", len(r.Flights("a"))+len(r.Flights("b")), 0)
}
