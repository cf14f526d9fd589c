package conn_test

import (
	"fmt"
	"math"
	"math/rand"
	"slices"
	"strings"
	"testing"

	"towncrier/alias"
	"towncrier/api"
	"towncrier/conn"
	"towncrier/packet"
	"towncrier/prop"
)

// same tells whether two values are the same; nil and the empty list are.
func same[T any](a, b T) bool {
	return fmt.Sprintf("%+v", a) == fmt.Sprintf("%+v", b)
}

// told is what an error says, nothing for nil.
func told(e error) string {
	if e == nil {
		return ""
	}
	return e.Error()
}

// opened is a connection of which packets have at most 100 bytes, with three aliases, and which is full with 20 bytes.
func opened() *conn.Conn {
	return conn.New(api.Config{Packet: 100, Aliases: 3, Out: 20}, 0)
}

// begun is one that has a client, for packets of so many bytes, with so many aliases.
func begun(most, aliases int) *conn.Conn {
	c := opened()
	c.Begin("me", api.Terms{Packet: most, Aliases: aliases})
	return c
}

// publish is a Publish of a topic.
func publish(topic string, props ...api.Prop) api.Packet {
	return api.Packet{Kind: api.Publish, Topic: topic, Payload: "p", Props: props}
}

// puback is a Puback of a number.
func puback(id int) api.Packet {
	return api.Packet{Kind: api.Puback, Id: id}
}

// sends fails the test unless a packet goes out as another one; of no kind: it does not.
func sends(t *testing.T, c *conn.Conn, p, want api.Packet) {
	t.Helper()
	before, s := c.Out(), ""
	if want.Kind > 0 {
		s, _ = packet.Encode(want)
	}
	if c.Send(p) != (s != "") || c.Out() != before+s {
		t.Errorf("%+v goes out as % x, want % x", p, c.Out()[len(before):], s)
	}
}

// nothing fails the test unless no packet comes, with this error, however often.
func nothing(t *testing.T, c *conn.Conn, want string) {
	t.Helper()
	for range 2 {
		if p, ok, err := c.Next(); ok || !same(p, api.Packet{}) || told(err) != want {
			t.Errorf("Next() = %+v, %v, %v; want %q", p, ok, err, want)
		}
	}
}

// comes fails the test unless a packet of a kind comes.
func comes(t *testing.T, c *conn.Conn, kind int) {
	t.Helper()
	if p, ok, err := c.Next(); !ok || p.Kind != kind || err != nil {
		t.Errorf("Next() = %+v, %v, %v; want kind %d", p, ok, err, kind)
	}
}

// Cn1: packets that come in, up to the first error, which stays.
func TestNext(t *testing.T) {
	c := opened()
	nothing(t, c, "")
	c.Feed("\xc0\x00\x62\x02\x00")
	comes(t, c, api.Pingreq)
	nothing(t, c, "")
	c.Feed("\x07\xe0\x00\xc0\x00")
	comes(t, c, api.Pubrel)
	comes(t, c, api.Disconnect)
	c.Close()
	nothing(t, c, "")
	for s, want := range map[string]string{
		"\x00\x00": "malformed, reason 129, at 0", "\xc0\x01\x00": "malformed, reason 129, at 0", "\x62\x02\x00\x00": "against the protocol, reason 130, at 0",
		"\x30\x63": "too large, reason 149, at 0", "\x10\x07\x00\x04MQTT\x04": "against the protocol, reason 132, at 6", "\x62\x01\x00": "too few bytes, reason 129, at 1", "\xc0\xff\xff\xff\xff": "malformed, reason 129, at 4",
	} {
		c := opened()
		c.Feed("\xc0\x00" + s)
		comes(t, c, api.Pingreq)
		nothing(t, c, want)
		c.Feed("\xc0\x00\xc0\x00")
		nothing(t, c, want)
		c.Close()
		nothing(t, c, "")
	}
	c = opened()
	c.Close()
	c.Feed("\x00")
	nothing(t, c, "")
	c = opened()
	c.Feed("\x30\x62\x00\x01t\x00" + strings.Repeat("x", 94))
	comes(t, c, api.Publish)
}

// none are the terms of a connection without a client.
var none = api.Terms{Packet: 1<<28 - 1}

// Cn1: the client and its terms.
func TestBegin(t *testing.T) {
	for _, now := range []int{0, 3, -1, 1 << 40, math.MaxInt, math.MinInt} {
		c := conn.New(api.Config{Packet: 100, Aliases: 3, Out: 20}, now)
		if c.Client() != "" || c.Terms() != none || c.Closed() {
			t.Errorf("a new connection has %q, %+v", c.Client(), c.Terms())
		}
		c.Close()
		if c.Client() != "" || c.Terms() != none || !c.Closed() {
			t.Errorf("a new connection, closed, has %q, %+v", c.Client(), c.Terms())
		}
	}
	c := opened()
	a := api.Terms{Expiry: 7, Receive: 3, Packet: 100, Aliases: 2, Keep: 5, Problem: true}
	c.Begin("me", a)
	if c.Client() != "me" || c.Terms() != a {
		t.Errorf("Client() = %q, Terms() = %+v", c.Client(), c.Terms())
	}
	c.Close()
	if c.Client() != "me" || c.Terms() != a || !c.Closed() {
		t.Errorf("behind its end, Client() = %q, Terms() = %+v", c.Client(), c.Terms())
	}
}

// Cn1: nothing was heard for more than one and a half times the keep-alive.
func TestLate(t *testing.T) {
	const latest = 1 << 40
	for _, x := range []struct {
		keep, heard, now int
		want             bool
	}{
		{0, 0, latest, false}, {-1, 0, latest, false}, {math.MinInt, 0, latest, false}, {1, 0, 1, false}, {1, 0, 2, true}, {2, 0, 3, false}, {2, 0, 4, true}, {3, 0, 4, false}, {3, 0, 5, true}, {10, 7, 22, false}, {10, 7, 23, true},
		{10, 7, math.MaxInt, true}, {10, 7, math.MinInt, false}, {10, -9, 15, false}, {10, -9, 16, true}, {10, latest + 9, math.MaxInt, false}, {1, latest - 2, math.MaxInt, true}, {1, latest - 1, math.MaxInt, false},
		{math.MaxInt, 0, math.MaxInt, false}, {latest, 0, latest, false}, {latest / 3 * 2, 0, latest, true},
	} {
		c, d := opened(), conn.New(api.Config{}, x.heard)
		for _, c := range []*conn.Conn{c, d} {
			c.Begin("me", api.Terms{Keep: x.keep})
		}
		c.Heard(math.MaxInt)
		c.Heard(x.heard)
		if c.Late(x.now) != x.want || d.Late(x.now) != x.want {
			t.Errorf("%+v: %v", x, !x.want)
		}
		c.Close()
		if c.Late(x.now) {
			t.Errorf("%+v, closed: true", x)
		}
	}
	if opened().Late(latest) {
		t.Error("late without a client")
	}
}

// Cn1: the topic of what comes in, with as many aliases as the bounds have.
func TestTopic(t *testing.T) {
	c := opened()
	for k, x := range []struct {
		topic string
		n     int
		want  string
		fault string
	}{
		{"a", -1, "a", ""}, {"a", 0, "a", ""}, {"", -1, "", "against the protocol, reason 130, at 0"}, {"", 3, "", "against the protocol, reason 130, at 0"}, {"b", 3, "b", ""}, {"", 3, "b", ""}, {"c", 3, "c", ""}, {"", 3, "c", ""},
		{"a", 4, "", "against the protocol, reason 148, at 0"}, {"", 4, "", "against the protocol, reason 148, at 0"}, {"a", 65535, "", "against the protocol, reason 148, at 0"},
	} {
		p := publish(x.topic)
		if x.n >= 0 {
			p.Props = []api.Prop{{Id: 38, N: 7}, {Id: 35, N: x.n}, {Id: 35, N: 9}}
		}
		if s, err := c.Topic(p); s != x.want || told(err) != x.fault {
			t.Errorf("%d: Topic = %q, %v; want %q, %q", k, s, err, x.want, x.fault)
		}
		if k == 8 {
			c.Begin("me", api.Terms{Aliases: 9})
			c.Close()
		}
	}
}

// Cn2: what goes out, if it fits.
func TestSend(t *testing.T) {
	c := opened()
	long := api.Packet{Kind: api.Publish, Topic: "t", Payload: strings.Repeat("x", 1000)}
	sends(t, c, puback(7), puback(7))
	sends(t, c, long, long)
	sends(t, c, puback(0), api.Packet{})
	sends(t, c, api.Packet{}, api.Packet{})
	c.Begin("me", api.Terms{Packet: 100})
	sends(t, c, long, api.Packet{})
	long.Payload = long.Payload[:95]
	sends(t, c, long, api.Packet{})
	long.Payload = long.Payload[:94]
	sends(t, c, long, long)
	for _, most := range []int{3, 0, -1, math.MinInt} {
		c.Begin("me", api.Terms{Packet: most})
		sends(t, c, puback(7), api.Packet{})
	}
	c.Begin("me", api.Terms{Packet: 4})
	sends(t, c, puback(7), puback(7))
	c.Close()
	sends(t, c, puback(7), api.Packet{})
}

// Cn2: a Publish with a topic goes out with an alias, if it may.
func TestAliases(t *testing.T) {
	c := begun(30, 2)
	pair := api.Prop{Id: 38, S: "k", V: "v"}
	with := func(topic string, props ...api.Prop) api.Packet { return publish(topic, props...) }
	alias := func(n int) api.Prop { return api.Prop{Id: 35, N: n} }
	sends(t, c, with("a", pair), with("a", pair, alias(1)))
	sends(t, c, with("a"), with("", alias(1)))
	sends(t, c, with("b"), with("b", alias(2)))
	sends(t, c, with("c", pair), with("c", pair))
	sends(t, c, with("b", pair), with("", pair, alias(2)))
	sends(t, c, with("a", alias(9)), with("a", alias(9)))
	sends(t, c, with("", alias(9)), with("", alias(9)))
	sends(t, c, with(""), with(""))
	sends(t, c, puback(3), puback(3))
	d := begun(12, 2)
	// Twelve bytes are all that it may have, so there is no room for an alias, nor does it get one.
	long := with("topic")
	sends(t, d, with("topic12"), api.Packet{})
	sends(t, d, with("topic1"), with("topic1"))
	sends(t, d, with("topi"), with("topi"))
	sends(t, d, with("top"), with("top", alias(1)))
	sends(t, d, long, long)
	sends(t, d, with("top"), with("", alias(1)))
	for _, aliases := range []int{0, -1} {
		e := begun(100, aliases)
		sends(t, e, with("a"), with("a"))
		sends(t, e, with("a"), with("a"))
	}
	c.Begin("me", api.Terms{Packet: 100, Aliases: 1})
	sends(t, c, with("c"), with("c", alias(1)))
	sends(t, c, with("a"), with("a"))
	many := publish("m", slices.Repeat([]api.Prop{pair}, 64)...)
	e := begun(1000, 1)
	sends(t, e, many, many)
	sends(t, e, publish("m", many.Props[1:]...), publish("m", append(slices.Clone(many.Props[1:]), alias(1))...))
}

// Cn2: bytes that go out wait until they are drained, even behind the end.
func TestDrain(t *testing.T) {
	c := opened()
	for i, full := range []bool{false, false, false, false, true} {
		c.Send(puback(i + 1))
		if c.Full() != full {
			t.Errorf("with %d bytes: Full() = %v", len(c.Out()), c.Full())
		}
	}
	all := c.Out()
	for _, n := range []int{0, -1, math.MinInt} {
		if s := c.Drain(n); s != "" || c.Out() != all {
			t.Errorf("Drain(%d) = %q", n, s)
		}
	}
	if s := c.Drain(1); s != all[:1] || c.Out() != all[1:] || c.Full() {
		t.Errorf("Drain(1) = %q, Out() = %q", s, c.Out())
	}
	c.Send(puback(9))
	c.Close()
	if c.Full() || c.Out() != all[1:]+"\x40\x02\x00\x09" {
		t.Errorf("Out() = %q, Full() = %v", c.Out(), c.Full())
	}
	if s := c.Drain(3); s != all[1:4] {
		t.Errorf("Drain(3) = %q", s)
	}
	if s := c.Drain(math.MaxInt); s != all[4:]+"\x40\x02\x00\x09" || c.Out() != "" || c.Drain(9) != "" {
		t.Errorf("Drain = %q, Out() = %q", s, c.Out())
	}
	if !conn.New(api.Config{}, 0).Full() || !conn.New(api.Config{Out: -1}, 0).Full() {
		t.Error("not full with nothing")
	}
}

// paid fails the test unless these are the numbers of packets that went out, and those of packets that are owed.
func paid(t *testing.T, c *conn.Conn, l []api.Packet, out, owes string) {
	t.Helper()
	numbers := func(l []api.Packet) string {
		s := ""
		for _, p := range l {
			s += fmt.Sprint(p.Id)
		}
		return s
	}
	if got, left := numbers(l), numbers(c.Owes()); got != out || left != owes {
		t.Errorf("%s went out, %s are owed; want %s, %s", got, left, out, owes)
	}
}

// Cn3: answers go out in their order, as soon as all ahead are ready; the chapter's example are two of which the first one is not.
func TestAnswer(t *testing.T) {
	c := opened()
	paid(t, c, c.Answer(puback(1), true), "1", "")
	paid(t, c, c.Answer(puback(2), false), "", "2")
	paid(t, c, c.Answer(puback(3), true), "", "23")
	paid(t, c, c.Answer(puback(4), false), "", "234")
	if l, _ := packet.All(c.Out(), 100); !same(l, []api.Packet{puback(1)}) {
		t.Errorf("%+v went out", l)
	}
	paid(t, c, c.Settle(), "234", "")
	paid(t, c, c.Settle(), "", "")
	paid(t, c, c.Answer(puback(5), true), "5", "")
	if l, _ := packet.All(c.Out(), 100); !same(l, []api.Packet{puback(1), puback(2), puback(3), puback(4), puback(5)}) {
		t.Errorf("%+v went out", l)
	}
}

// Cn3: what does not fit is paid, too, though it does not go out.
func TestAnswerDoesNotFit(t *testing.T) {
	c := begun(4, 0)
	long := api.Packet{Kind: api.Puback, Id: 2, Reason: 0x10}
	paid(t, c, c.Answer(puback(1), false), "", "1")
	paid(t, c, c.Answer(long, true), "", "12")
	paid(t, c, c.Answer(puback(0), true), "", "120")
	paid(t, c, c.Answer(puback(3), true), "", "1203")
	paid(t, c, c.Settle(), "1203", "")
	if s := c.Out(); s != "\x40\x02\x00\x01\x40\x02\x00\x03" {
		t.Errorf("Out() = % x", s)
	}
}

// Cn3: of a closed connection, nothing is owed.
func TestAnswerClosed(t *testing.T) {
	c := opened()
	c.Answer(puback(1), false)
	c.Close()
	paid(t, c, c.Settle(), "", "")
	paid(t, c, c.Answer(puback(2), true), "", "")
	paid(t, c, c.Answer(puback(2), false), "", "")
	if c.Out() != "" {
		t.Errorf("Out() = % x", c.Out())
	}
}

// Cn3: no connection, and a zero one.
func TestNothing(t *testing.T) {
	for _, c := range []*conn.Conn{nil, {}} {
		c.Begin("me", api.Terms{Packet: 100, Aliases: 3, Keep: 1})
		c.Feed("\x00")
		c.Heard(3)
		c.Close()
		nothing(t, c, "")
		paid(t, c, c.Answer(puback(1), true), "", "")
		paid(t, c, c.Answer(puback(1), false), "", "")
		paid(t, c, c.Settle(), "", "")
		if !c.Closed() || c.Full() || c.Late(1<<40) || c.Client() != "" || c.Terms() != (api.Terms{}) || c.Send(puback(1)) || c.Out() != "" || c.Drain(9) != "" {
			t.Error("it is open")
		}
		if s, err := c.Topic(publish("a")); s != "a" || err != nil {
			t.Errorf("Topic = %q, %v", s, err)
		}
		if s, err := c.Topic(publish("")); s != "" || told(err) != "against the protocol, reason 130, at 0" {
			t.Errorf("Topic = %q, %v", s, err)
		}
		if s, err := c.Topic(publish("a", api.Prop{Id: 35, N: 1})); s != "" || told(err) != "against the protocol, reason 148, at 0" {
			t.Errorf("Topic = %q, %v", s, err)
		}
	}
}

// R3: lists are neither kept, nor handed out, nor changed.
func TestListsAreNew(t *testing.T) {
	c := begun(100, 5)
	fresh := func() api.Packet {
		return api.Packet{
			Kind: api.Publish, Id: 1, Topic: "t", Props: append(make([]api.Prop, 0, 9), api.Prop{Id: 3, S: "x"}), Will: api.Last{Props: []api.Prop{{Id: 3, S: "x"}}},
			Subs: []api.Sub{{Filter: "x"}}, Filters: []string{"x"}, Codes: []int{1},
		}
	}
	spoil := func(p api.Packet) {
		p.Props[0].S, p.Will.Props[0].S, p.Subs[0].Filter, p.Filters[0], p.Codes[0] = "y", "y", "y", "y", 2
	}
	p := fresh()
	c.Answer(p, false)
	spoil(p)
	spoil(c.Owes()[0])
	if l := c.Owes(); len(l) != 1 || !same(l[0], fresh()) {
		t.Errorf("Owes() = %+v", l)
	}
	if l := c.Settle(); len(l) != 1 || !same(l[0], fresh()) {
		t.Errorf("Settle() = %+v", l)
	}
	p = fresh()
	if c.Send(p); !same(p, fresh()) || p.Props[:2][1] != (api.Prop{}) {
		t.Errorf("the packet became %+v", p)
	}
}

// Cn4: what goes out is decoded as packets that fit, whose topics are told by their aliases.
func TestTopicsAreTold(t *testing.T) {
	rnd := rand.New(rand.NewSource(37))
	for range 200 {
		most, aliases := 10+rnd.Intn(20), rnd.Intn(5)
		c := begun(most, aliases)
		var topics []string
		for range 50 {
			p := publish(strings.Repeat("t", 1+rnd.Intn(9)))
			p.Topic += fmt.Sprint(rnd.Intn(3))
			if c.Send(p) {
				topics = append(topics, p.Topic)
			}
		}
		l, err := packet.All(c.Out(), most)
		if err != nil || len(l) != len(topics) {
			t.Fatalf("%d packets, %v; want %d", len(l), err, len(topics))
		}
		in := alias.NewIn(aliases)
		for i, p := range l {
			if s, err := in.Topic(p.Topic, prop.Number(p.Props, 35, 0)); s != topics[i] || err != nil || !packet.Fits(p, most) {
				t.Fatalf("%+v is of %q, %v; want %q", p, s, err, topics[i])
			}
		}
	}
}
