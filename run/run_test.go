package run_test

import (
	"strings"
	"testing"

	"towncrier/api"
	"towncrier/packet"
	"towncrier/run"
	"towncrier/script"
	"towncrier/terms"
)

// bytes are those of packets.
func bytes(t *testing.T, l ...api.Packet) string {
	t.Helper()
	s := ""
	for _, p := range l {
		one, err := packet.Encode(p)
		if err != nil {
			t.Fatalf("%+v: %v", p, err)
		}
		s += one
	}
	return s
}

// open is that a connection is opened.
func open(k int) api.Event { return api.Event{Kind: api.EvOpen, Conn: k} }

// feed is that packets come in.
func feed(t *testing.T, k int, l ...api.Packet) api.Event {
	t.Helper()
	return api.Event{Kind: api.EvFeed, Conn: k, Bytes: bytes(t, l...)}
}

// connect is a Connect of a session that outlives its connection.
func connect(client string) api.Packet {
	return api.Packet{Kind: api.Connect, Client: client, Props: []api.Prop{{Id: 17, N: 100}}}
}

// subscribe is a Subscribe of a filter.
func subscribe(qos int, filter string) api.Packet {
	return api.Packet{Kind: api.Subscribe, Id: 1, Subs: []api.Sub{{Filter: filter, Qos: qos}}}
}

// publish is a Publish.
func publish(topic, payload string, qos, id int) api.Packet {
	return api.Packet{Kind: api.Publish, Topic: topic, Payload: payload, Qos: qos, Id: id}
}

// ack is a packet of a kind, with a number and a reason.
func ack(kind, id, reason int) api.Packet {
	return api.Packet{Kind: kind, Id: id, Reason: reason}
}

// tells fails the test unless this becomes of events, also as a script.
func tells(t *testing.T, want string, l ...api.Event) {
	t.Helper()
	want = strings.Join(strings.Split(want, "; "), "\n") + "\n"
	if s, err := run.Lines(terms.Usual(), l); s != want || err != nil {
		t.Errorf("Lines = %q, %v; want %q", s, err, want)
	}
	s, err := script.Put(terms.Usual(), l)
	if err != nil {
		t.Fatal(err)
	}
	if s, err = run.Report(s); s != want || err != nil {
		t.Errorf("Report = %q, %v; want %q", s, err, want)
	}
}

// Rn1: without events there is one line; the chapter's example.
func TestNothing(t *testing.T) {
	tells(t, "broker 0 0 0 0 1")
	tells(t, "broker 2 0 0 0 1", api.Event{Kind: api.EvTick}, api.Event{Kind: api.EvSync}, api.Event{Kind: api.EvTick}, api.Event{Kind: api.EvDrop, Conn: 200})
}

// Rn1: what came and went, connection by connection, and what groups have.
func TestLines(t *testing.T) {
	l := []api.Event{open(3), open(0), feed(t, 3, connect("a"), subscribe(1, "t"), subscribe(2, "$share/g/#")), feed(t, 0, connect("b"), subscribe(0, "$share/x-g/u"), subscribe(1, "$share/g/#"))}
	tells(t, "conn 1 0 0 0 0 0 0 0; conn 2 0 0 0 0 0 0 0; group 1 2 2 0 0; group 2 1 1 0 0; broker 0 2 0 0 1", l...)
	kept := publish("t", "x", 1, 7)
	kept.Retain = true
	l = append(l, feed(t, 0, kept, publish("$v", "y", 2, 8), publish("u", "z", 0, 0)))
	tells(t, "conn 1 0 0 0 2 0 0 0; conn 2 3 0 0 2 0 0 0; group 1 2 2 1 1; group 2 1 1 0 0; broker 0 2 1 1 0", l...)
	l = append(l, feed(t, 3, ack(api.Puback, 1, 0), ack(api.Puback, 2, 0x80)), api.Event{Kind: api.EvTick}, api.Event{Kind: api.EvSync})
	tells(t, "conn 1 0 0 0 2 2 0 0; conn 2 3 2 0 3 0 0 0; group 1 2 2 1 1; group 2 1 1 0 0; broker 1 2 1 0 0", l...)
}

// Rn1: answers that are bad, groups whose members are gone, and connections that ended.
func TestBadAnswers(t *testing.T) {
	l := []api.Event{open(0), open(1), feed(t, 0, connect("a"), subscribe(1, "$share/g/t"))}
	publishes := []api.Packet{connect("b")}
	for id := 1; id <= 18; id++ {
		publishes = append(publishes, publish("t", "x", 1, id%8+1))
		if id%6 == 0 {
			l = append(l, feed(t, 1, publishes...), api.Event{Kind: api.EvSync})
			publishes = nil
		}
	}
	l = append(l, feed(t, 1, publish("t", "x", 1, 8), ack(api.Puback, 1, 0)), api.Event{Kind: api.EvDrop})
	tells(t, "conn 1 0 0 0 16 0 0 0; conn 2 19 19 3 0 0 0 0; group 1 1 0 16 0; broker 0 2 0 0 1", l...)
	l = append(l, feed(t, 1, ack(api.Pubcomp, 1, 0)), api.Event{Kind: api.EvFeed, Conn: 1, Bytes: "\x00"}, open(1), feed(t, 1, publish("t", "x", 0, 0)))
	tells(t, "conn 1 0 0 0 16 0 0 0; conn 2 19 19 3 0 0 0 0; conn 3 1 0 0 0 0 0 0; group 1 1 0 16 0; broker 0 2 0 0 1", l...)
	l = append(l, api.Event{Kind: api.EvCrash})
	tells(t, "conn 1 0 0 0 16 0 0 0; conn 2 19 19 3 0 0 0 0; conn 3 1 0 0 0 0 0 0; group 1 0 0 16 0; broker 0 0 0 0 1", l...)
}

// Rn1: bounds that are not valid, and bytes that are no script.
func TestErrors(t *testing.T) {
	bad := terms.Usual()
	bad.Keep = -1
	if s, err := run.Lines(bad, nil); s != "" || err == nil || err.Error() != "no such thing, reason 131, at 10" {
		t.Errorf("Lines = %q, %v", s, err)
	}
	for s, want := range map[string]string{"": "too few bytes, reason 129, at 0", "CRIEX": "malformed, reason 129, at 0", "CRIER" + strings.Repeat("\x00", 52): "no such thing, reason 131, at 0"} {
		if s, err := run.Report(s); s != "" || err == nil || err.Error() != want {
			t.Errorf("Report = %q, %v; want %s", s, err, want)
		}
	}
}
