package groups_test

import (
	"fmt"
	"slices"
	"strings"
	"testing"

	"towncrier/api"
	"towncrier/disk"
	"towncrier/groups"
	"towncrier/share"
	"towncrier/store"
	"towncrier/wal"
)

// The faults of what can't be published, and of what there is no room for.
const (
	refused = "no such thing, reason 128, at 0"
	full    = "no room, reason 151, at 0"
)

// same tells whether two values are the same; nil and the empty list are.
func same[T any](a, b T) bool {
	return fmt.Sprintf("%+v", a) == fmt.Sprintf("%+v", b)
}

// told is what an error says, nothing for nil.
func told(e error) string {
	if e == nil {
		return ""
	}
	return e.Error()
}

// bounds are those of groups with room for three messages.
var bounds = api.Config{Group: 3}

// open are groups on a new disk, which has room for so many bytes.
func open(room int) (*groups.Groups, *disk.Disk) {
	d := disk.New(room)
	return groups.Open(bounds, d), d
}

// of is the share of a group's key.
func of(key string) api.Share {
	x, _ := share.Parse("$share/" + key)
	return x
}

// join lets clients be members, each told as the group's key, and the client behind a blank.
func join(t *testing.T, g *groups.Groups, l ...string) {
	t.Helper()
	for _, s := range l {
		key, client, _ := strings.Cut(s, " ")
		if !g.Join(of(key), client, 1) {
			t.Fatalf("%s does not join", s)
		}
	}
}

// message is one with a topic.
func message(name string, qos int) api.Msg {
	return api.Msg{Topic: name, Payload: "p", Qos: qos, Retain: true, From: "f", Props: []api.Prop{{Id: 3, S: "x"}}}
}

// publish fails the test unless a message is published, or refused.
func publish(t *testing.T, g *groups.Groups, m api.Msg, want string, keys ...string) {
	t.Helper()
	if err := g.Publish(m, keys, 0); told(err) != want {
		t.Errorf("Publish(%s, %q): %v, want %q", m.Topic, keys, err, want)
	}
}

// queues fails the test unless these are all groups, and their messages: of each group its key, and of each message its topic, its number, to whom it is in transit, and whether it may have been sent.
func queues(t *testing.T, g *groups.Groups, want ...string) {
	t.Helper()
	var l []string
	for _, key := range g.Keys() {
		s := key
		for _, x := range g.Items(key) {
			s += fmt.Sprint(" ", x.Msg.Topic, x.Msg.Seq)
			if x.At != "" {
				s += ":" + x.At
			}
			if x.Again {
				s += "*"
			}
			if x.Msg.Group != key || g.Again(x.Msg) != x.Again {
				t.Errorf("in %s: %+v", key, x)
			}
		}
		l = append(l, s)
	}
	if !slices.Equal(l, want) {
		t.Errorf("the queues are %q, want %q", l, want)
	}
}

// records are a disk's records: their kinds, groups and numbers.
func records(d *disk.Disk) string {
	var l []string
	bodies, _ := wal.Scan(d.Bytes())
	for _, s := range bodies {
		o, _ := store.Take(s)
		l = append(l, fmt.Sprint("?+-x"[o.Kind:o.Kind+1], o.Group, o.Seq))
	}
	return strings.Join(l, " ")
}

// journal fails the test unless a disk has these records, so many bytes of which are not sure.
func journal(t *testing.T, d *disk.Disk, want string, unsure bool) {
	t.Helper()
	if got := records(d); got != want || unsure != (d.Sure() < len(d.Bytes())) {
		t.Errorf("the journal is %s, %d of %d bytes sure; want %s", got, d.Sure(), len(d.Bytes()), want)
	}
}

// says fails the test unless an answer is the one that is wanted.
func says(t *testing.T, what string, got, want bool) {
	t.Helper()
	if got != want {
		t.Errorf("%s = %v", what, got)
	}
}

// Gs1: groups are present while they have members or messages.
func TestJoinAndLeave(t *testing.T) {
	g, _ := open(0)
	queues(t, g)
	says(t, "a joins", g.Join(of("g/t"), "a", 2), true)
	says(t, "a joins again", g.Join(of("g/t"), "a", 1), false)
	says(t, "b joins", g.Join(of("g/t"), "b", 0), true)
	says(t, "a joins another group", g.Join(of("g/+/#"), "a", 0), true)
	queues(t, g, "g/+/#", "g/t")
	if l := g.Members("g/t"); !slices.Equal(l, []api.Member{{Client: "a", Since: 1, Qos: 1, Online: true}, {Client: "b", Since: 2, Online: true}}) {
		t.Errorf("Members = %+v", l)
	}
	if g.Qos("g/t", "a") != 1 || g.Qos("g/t", "b") != 0 || g.Qos("g/t", "c") != 0 || g.Qos("h/t", "a") != 0 || len(g.Members("g")) > 0 || len(g.Items("g")) > 0 {
		t.Error("Qos")
	}
	says(t, "c leaves", g.Leave(of("g/t"), "c"), false)
	says(t, "a leaves another group", g.Leave(of("h/t"), "a"), false)
	says(t, "a leaves", g.Leave(of("g/t"), "a"), true)
	says(t, "a leaves again", g.Leave(of("g/t"), "a"), false)
	queues(t, g, "g/+/#", "g/t")
	says(t, "b leaves", g.Leave(of("g/t"), "b"), true)
	queues(t, g, "g/+/#")
	says(t, "b leaves again", g.Leave(of("g/t"), "b"), false)
}

// Gs1: to join, a share must be what a shared filter tells; to leave, its key is enough.
func TestShares(t *testing.T) {
	g, _ := open(0)
	for _, x := range []api.Share{
		{}, {Filter: "t"}, {Group: "g", Filter: "t"}, {Shared: true}, {Shared: true, Group: "g"}, {Shared: true, Filter: "t"}, {Shared: true, Group: "g/a", Filter: "t"}, {Shared: true, Group: "g+", Filter: "t"},
		{Shared: true, Group: "g", Filter: "t#"}, {Shared: true, Group: "g", Filter: "#/t"}, {Filter: "$share/g/t"}, {Shared: true, Group: "g", Filter: strings.Repeat("/", 30)}, {Shared: true, Group: "\xff", Filter: "t"},
	} {
		says(t, fmt.Sprintf("Join %+v", x), g.Join(x, "a", 1), false)
	}
	queues(t, g)
	for _, x := range []api.Share{{Shared: true, Group: "g", Filter: strings.Repeat("/", 29)}, {Shared: true, Group: "g", Filter: "a/b"}, {Shared: true, Group: "$share", Filter: "$share/g/t"}} {
		says(t, fmt.Sprintf("Join %+v", x), g.Join(x, "a", 1), true)
	}
	says(t, "leave what is not shared", g.Leave(api.Share{Group: "g", Filter: "a/b"}, "a"), false)
	says(t, "leave by another share of the key", g.Leave(api.Share{Shared: true, Group: "g/a", Filter: "b"}, "a"), true)
	queues(t, g, "$share/$share/g/t", "g/"+strings.Repeat("/", 29))
}

// Gs1: who is connected is told to all groups; which groups take a topic.
func TestOnlineAndMatch(t *testing.T) {
	g, _ := open(0)
	join(t, g, "g/a/+ a", "g/a/b a", "h/# b", "g/$x a", "x/+/b b")
	g.Online("a", false)
	for _, key := range g.Keys() {
		for _, m := range g.Members(key) {
			if m.Online != (m.Client == "b") {
				t.Errorf("in %s: %+v", key, m)
			}
		}
	}
	g.Online("a", true)
	g.Online("c", true)
	if l := g.Members("g/a/+"); !slices.Equal(l, []api.Member{{Client: "a", Since: 1, Qos: 1, Online: true}}) {
		t.Errorf("Members = %+v", l)
	}
	for name, want := range map[string][]string{
		"a/b": {"g/a/+", "g/a/b", "h/#", "x/+/b"}, "a/c": {"g/a/+", "h/#"}, "$x": {"g/$x"}, "": nil, "a/+": nil, "c": {"h/#"},
	} {
		if l := g.Match(name); !slices.Equal(l, want) {
			t.Errorf("Match(%q) = %q, want %q", name, l, want)
		}
	}
}

// Gs1: the strategy of a group is that of its name.
func TestStrategies(t *testing.T) {
	g, _ := open(1000)
	join(t, g, "x-g/# a", "x-g/# b", "r/# a", "r/# b")
	publish(t, g, message("m", 1), "", "r/#", "x-g/#")
	publish(t, g, message("n", 1), "", "r/#", "x-g/#")
	var l []string
	for range 4 {
		m, client, ok := g.Next([]string{"a", "b"})
		if !ok || !g.Sent(m, client) {
			t.Fatalf("Next = %+v, %q, %v", m, client, ok)
		}
		l = append(l, m.Group+m.Topic+client)
	}
	if !slices.Equal(l, []string{"r/#ma", "r/#nb", "x-g/#ma", "x-g/#na"}) {
		t.Errorf("sent %q", l)
	}
}

// Gs1: after a crash the groups are those that the journal tells, as far as there is room, and all may have been sent.
func TestOpen(t *testing.T) {
	d := disk.New(10000)
	l := wal.Open(d)
	put := func(kind int, group string, seq, qos int) {
		s, err := store.Put(api.Op{Kind: kind, Group: group, Seq: seq, Msg: api.Msg{Topic: "m", Qos: qos, Group: group, Seq: seq}})
		if err != nil || l.Append(s) != nil {
			t.Fatalf("%s%d is not recorded", group, seq)
		}
	}
	put(api.OpAdd, "g/t", 2, 1)
	put(api.OpAdd, "h/#", 9, 1)
	put(api.OpAdd, "g/t", 4, 2)
	put(api.OpAdd, "g", 5, 1)
	put(api.OpAdd, "g/#/t", 6, 1)
	put(api.OpAdd, "/t", 7, 1)
	put(api.OpAdd, "g/t", 3, 0)
	put(api.OpAdd, "g/t", 8, 1)
	put(api.OpAdd, "i/t", 10, 1)
	put(api.OpDone, "i/t", 10, 0)
	put(api.OpGone, "/", 77, 0)
	l.Append("rubbish")
	d.Append("more rubbish")
	g := groups.Open(bounds, d)
	queues(t, g, "g/t m2* m4* m3*", "h/# m9*")
	if g.Last() != 77 || g.Waits() {
		t.Errorf("Last() = %d, Waits() = %v", g.Last(), g.Waits())
	}
	publish(t, g, message("n", 1), "", "h/#")
	queues(t, g, "g/t m2* m4* m3*", "h/# m9* n78")
	queues(t, groups.Open(api.Config{}, d))
	if g := groups.Open(bounds, nil); g.Last() != 0 || len(g.Keys()) > 0 || !g.Join(of("g/t"), "a", 1) || told(g.Publish(message("m", 1), []string{"g/t"}, 0)) != full || g.Publish(message("m", 0), []string{"g/t"}, 0) != nil || g.Compact() {
		t.Error("groups without a disk")
	}
}

// Gs3: no groups, and zero ones.
func TestNothing(t *testing.T) {
	for _, g := range []*groups.Groups{nil, {}} {
		says(t, "Join", g.Join(of("g/t"), "a", 1), false)
		says(t, "Leave", g.Leave(of("g/t"), "a"), false)
		g.Online("a", true)
		g.Sync()
		m := message("m", 1)
		m.Group, m.Seq = "g/t", 1
		publish(t, g, m, refused, "g/t")
		publish(t, g, m, "")
		_, client, ok := g.Next([]string{"a", ""})
		if ok || client != "" || g.Again(m) || g.Sent(m, "a") || g.Done(m, "a") || g.Back(m, "a") || g.Expire(1<<40) != 0 || g.Waits() || g.Compact() {
			t.Error("there is a message")
		}
		if len(g.Keys()) > 0 || len(g.Match("t")) > 0 || len(g.Items("g/t")) > 0 || len(g.Members("g/t")) > 0 || g.Qos("g/t", "a") != 0 || g.Last() != 0 {
			t.Error("there is a group")
		}
	}
}
