package groups_test

import (
	"fmt"
	"math"
	"math/rand"
	"slices"
	"strings"
	"testing"

	"towncrier/api"
	"towncrier/disk"
	"towncrier/groups"
	"towncrier/store"
	"towncrier/wal"
)

// size is how many bytes the frame of a message's record has.
func size(m api.Msg, key string) int {
	m.Group, m.Seq = key, 1
	s, _ := store.Put(api.Op{Kind: api.OpAdd, Group: key, Seq: 1, Msg: m})
	return len(wal.Put(s))
}

// Gs2: each group gets a message of its own, with a number of its own, in the order of the keys that are passed.
func TestPublish(t *testing.T) {
	g, d := open(10000)
	join(t, g, "g/# a", "h/# a", "i/# a")
	publish(t, g, message("m", 1), "", "h/#", "g/#")
	publish(t, g, message("n", 2), "", "g/#")
	publish(t, g, message("o", 1), "")
	queues(t, g, "g/# m2 n3", "h/# m1", "i/#")
	journal(t, d, "+h/#1 +g/#2 +g/#3", true)
	if !g.Waits() || g.Last() != 3 {
		t.Errorf("Waits() = %v, Last() = %d", g.Waits(), g.Last())
	}
	g.Sync()
	if g.Waits() || d.Sure() != len(d.Bytes()) {
		t.Error("the journal is not sure")
	}
	want := message("n", 2)
	want.Group, want.Seq = "g/#", 3
	if x := g.Items("g/#")[1]; !same(x, api.Item{Msg: want}) {
		t.Errorf("Items = %+v", x)
	}
}

// Gs2: keys that are none, or occur twice, and numbers that are used up.
func TestPublishRefuses(t *testing.T) {
	d := disk.New(10000)
	for _, s := range store.Rewrite(nil, api.MaxSeq-2) {
		wal.Open(d).Append(s)
	}
	g := groups.Open(bounds, d)
	join(t, g, "g/# a", "h/# a", "i/# a")
	for qos := range 3 {
		publish(t, g, message("m", qos), refused, "g/t")
		publish(t, g, message("m", qos), refused, "g/#", "")
		publish(t, g, message("m", qos), refused, "g/#", "g/#")
		publish(t, g, message("m", qos), refused, "g/#", "h/#", "i/#")
	}
	queues(t, g, "g/#", "h/#", "i/#")
	publish(t, g, message("m", 1), "", "g/#", "h/#")
	publish(t, g, message("m", 0), refused, "g/#")
	publish(t, g, message("m", 1), "")
	queues(t, g, "g/# m4294967294", "h/# m4294967295", "i/#")
}

// Gs2: if one of the groups is full, none has a message that lasts, and those that have room have one that does not; the chapter's example is the first.
func TestFullGroup(t *testing.T) {
	g, d := open(10000)
	join(t, g, "g/# a", "h/# a")
	for range 3 {
		publish(t, g, message("m", 1), "", "g/#")
	}
	publish(t, g, message("n", 1), full, "h/#", "g/#")
	bad := message("bad", 1)
	bad.Props = []api.Prop{{Id: 99}}
	publish(t, g, bad, full, "h/#", "g/#")
	queues(t, g, "g/# m1 m2 m3", "h/#")
	publish(t, g, message("n", 0), "", "h/#", "g/#")
	publish(t, g, message("o", -1), "", "g/#", "h/#")
	publish(t, g, message("p", 2), "", "h/#")
	queues(t, g, "g/# m1 m2 m3", "h/# n4 o7 p8")
	journal(t, d, "+g/#1 +g/#2 +g/#3 +h/#8", true)
}

// Gs2: what layer 34 does not record is refused with its error.
func TestNotRecorded(t *testing.T) {
	g, d := open(10000)
	join(t, g, "g/# a")
	for _, x := range []struct {
		want   string
		change func(*api.Msg)
	}{
		{refused, func(m *api.Msg) { m.Qos = 3 }},
		{refused, func(m *api.Msg) { m.Until = -1 }},
		{refused, func(m *api.Msg) { m.Until = 1<<53 + 1 }},
		{"malformed, reason 129, at 1", func(m *api.Msg) { m.Props = append(m.Props, api.Prop{Id: 24}) }},
		{"too large, reason 129, at 13", func(m *api.Msg) { m.Payload = strings.Repeat("x", 65536) }},
		{"too large, reason 149, at 64", func(m *api.Msg) { m.Props = slices.Repeat([]api.Prop{{Id: 38}}, 65) }},
	} {
		m := message("m", 1)
		x.change(&m)
		publish(t, g, m, x.want, "g/#")
	}
	m := message("m", 0)
	m.Until = -5
	publish(t, g, m, "", "g/#")
	queues(t, g, "g/# m1")
	journal(t, d, "", false)
}

// Gs2: if there is no room in the journal, it is written anew, and if there is none then either, nothing is published.
func TestFullJournal(t *testing.T) {
	m := message("m", 1)
	one := size(m, "g/#")
	g, d := open(3*one - 1)
	join(t, g, "g/# a", "h/# a", "i/# a")
	publish(t, g, m, "", "g/#", "h/#")
	publish(t, g, m, full, "g/#")
	journal(t, d, "x/2 +g/#1 +h/#2", false)
	g.Sent(api.Msg{Group: "g/#", Seq: 1}, "a")
	// There is room for its record without writing the journal anew.
	says(t, "1 is done", g.Done(api.Msg{Group: "g/#", Seq: 1}, "a"), true)
	journal(t, d, "x/2 +g/#1 +h/#2 -g/#1", true)
	publish(t, g, m, "", "i/#")
	journal(t, d, "x/2 +h/#2 +i/#3", true)
	publish(t, g, m, full, "g/#", "h/#")
	journal(t, d, "x/3 +h/#2 +i/#3", false)
	queues(t, g, "g/#", "h/# m2", "i/# m3")
	if g.Last() != 3 {
		t.Errorf("Last() = %d", g.Last())
	}
}

// Gs2: if there is room for the first of some records only, none is appended.
func TestRoomForOne(t *testing.T) {
	m := message("m", 1)
	one := size(m, "g/#")
	g, d := open(2*one - 1)
	join(t, g, "g/# a", "h/# a")
	publish(t, g, m, full, "g/#", "h/#")
	journal(t, d, "", false)
	publish(t, g, m, "", "h/#")
	journal(t, d, "+h/#1", true)
}

// Gs2: a record that is too long has no room either.
func TestTooLong(t *testing.T) {
	g, d := open(1 << 20)
	join(t, g, "g/# a", "h/# a")
	m := message("m", 1)
	most := 65536 - (size(m, "g/#") - 8)
	m.Payload += strings.Repeat("x", most)
	publish(t, g, m, "", "g/#")
	m.Payload += "x"
	publish(t, g, m, full, "h/#", "g/#")
	// Of the record of another group, which has a longer key, there is too much by one.
	m.Payload = m.Payload[1:]
	join(t, g, "hh/# a")
	publish(t, g, m, full, "h/#", "hh/#")
	if len(g.Items("g/#")) != 1 || len(g.Items("h/#")) > 0 || g.Last() != 1 {
		t.Errorf("Last() = %d", g.Last())
	}
	journal(t, d, "x/1 +g/#1", false)
}

// Gs2: how long a group's message waits at most.
func TestWait(t *testing.T) {
	const latest = 1 << 40
	for _, x := range []struct{ wait, until, now, want int }{
		{0, 0, 5, 0}, {0, 7, 5, 7}, {-3, 7, 5, 7}, {3, 0, 5, 8}, {3, 7, 5, 7}, {3, 8, 5, 8}, {3, 9, 5, 8}, {3, 2, 5, 2}, {3, -1, 5, 8}, {3, 1, 5, 1}, {1, 0, 5, 6}, {1, 0, 0, 1}, {3, 0, -9, 3}, {3, 0, math.MinInt, 3}, {3, 9, -9, 3},
		{3, 0, latest + 7, latest + 3}, {3, latest + 9, math.MaxInt, latest + 3}, {1<<32 - 1, 0, latest, latest + 1<<32 - 1}, {math.MaxInt, 5, 9, 5}, {math.MaxInt, 0, 9, math.MaxInt},
	} {
		for qos := range 2 {
			g := groups.Open(api.Config{Group: 2, Wait: x.wait}, disk.New(1000))
			join(t, g, "g/# a", "h/# a")
			m := message("m", qos)
			m.Until = x.until
			err := g.Publish(m, []string{"h/#", "g/#"}, x.now)
			if x.want > 1<<53 && qos > 0 {
				if told(err) != refused {
					t.Errorf("%+v: %v", x, err)
				}
				continue
			}
			for _, key := range g.Keys() {
				if l := g.Items(key); err != nil || len(l) != 1 || l[0].Msg.Until != x.want {
					t.Errorf("%+v: %+v, %v", x, l, err)
				}
			}
		}
	}
}

// Gs3: what is sent, done, and back, by its group and its number.
func TestSend(t *testing.T) {
	g, d := open(10000)
	join(t, g, "g/# a", "h/# b")
	publish(t, g, message("m", 1), "", "h/#", "g/#")
	publish(t, g, message("n", 0), "", "h/#")
	m, client, ok := g.Next([]string{"b", "a"})
	if m.Seq != 2 || client != "a" || !ok {
		t.Errorf("Next = %+v, %q, %v", m, client, ok)
	}
	if m, client, ok := g.Next([]string{"b"}); m.Seq != 1 || client != "b" || !ok {
		t.Errorf("Next = %+v, %q, %v", m, client, ok)
	}
	if _, _, ok := g.Next([]string{"c"}); ok {
		t.Error("Next of nobody")
	}
	by := func(key string, seq int) api.Msg { return api.Msg{Group: key, Seq: seq} }
	says(t, "2 of another group", g.Sent(by("h/#", 2), "b"), false)
	says(t, "1 of no group", g.Sent(by("i/#", 1), "b"), false)
	says(t, "1 to no member", g.Sent(by("h/#", 1), "a"), false)
	says(t, "Again", g.Again(by("h/#", 1)), false)
	says(t, "1 to b", g.Sent(by("h/#", 1), "b"), true)
	says(t, "3 to b", g.Sent(by("h/#", 3), "b"), true)
	says(t, "Again", g.Again(by("h/#", 1)), true)
	says(t, "Again of another one", g.Again(by("g/#", 1)), false)
	queues(t, g, "g/# m2", "h/# m1:b* n3:b*")
	says(t, "1 back of another one", g.Back(by("h/#", 1), "a"), false)
	says(t, "1 back", g.Back(by("h/#", 1), "b"), true)
	says(t, "1 done", g.Done(by("h/#", 1), "b"), false)
	says(t, "3 done", g.Done(by("h/#", 3), "b"), true)
	journal(t, d, "+h/#1 +g/#2", true)
	g.Sent(by("h/#", 1), "b")
	says(t, "1 done of another one", g.Done(by("h/#", 1), "a"), false)
	says(t, "1 done", g.Done(by("h/#", 1), "b"), true)
	says(t, "1 done again", g.Done(by("h/#", 1), "b"), false)
	journal(t, d, "+h/#1 +g/#2 -h/#1", true)
	queues(t, g, "g/# m2", "h/#")
}

// Gs3: what is gone when its group has no members any more is gone with its group.
func TestLastMessage(t *testing.T) {
	d := disk.New(10000)
	g := groups.Open(api.Config{Group: 3, Wait: 5}, d)
	join(t, g, "g/# a", "h/# a")
	publish(t, g, message("m", 1), "", "g/#", "h/#")
	g.Leave(of("g/#"), "a")
	g.Leave(of("h/#"), "a")
	queues(t, g, "g/# m1", "h/# m2")
	if n := g.Expire(4); n != 0 {
		t.Errorf("Expire = %d", n)
	}
	if n := g.Expire(5); n != 2 {
		t.Errorf("Expire = %d", n)
	}
	queues(t, g)
	journal(t, d, "+g/#1 +h/#2 xg/#1 xh/#2", true)
}

// Gs3: of what expires, that which lasts is recorded, one after the other; what is in transit does not expire.
func TestExpire(t *testing.T) {
	d := disk.New(10000)
	g := groups.Open(api.Config{Group: 5}, d)
	join(t, g, "h/# a", "g/# b")
	for i, n := range []int{5, 9, 5, 5} {
		m := message("m", i%3)
		m.Until = n
		publish(t, g, m, "", "h/#", "g/#")
	}
	g.Sent(api.Msg{Group: "h/#", Seq: 5}, "a")
	journal(t, d, "+h/#3 +g/#4 +h/#5 +g/#6", true)
	if n := g.Expire(5); n != 5 {
		t.Errorf("Expire = %d", n)
	}
	queues(t, g, "g/# m4", "h/# m3 m5:a*")
	journal(t, d, "+h/#3 +g/#4 +h/#5 +g/#6 xg/#6", true)
	g.Back(api.Msg{Group: "h/#", Seq: 5}, "a")
	if n := g.Expire(math.MaxInt); n != 3 {
		t.Errorf("Expire = %d", n)
	}
	journal(t, d, "+h/#3 +g/#4 +h/#5 +g/#6 xg/#6 xg/#4 xh/#3 xh/#5", true)
}

// Gs3: without room for its record, what is done is gone from a journal that is written anew, and its record is behind that, if there is room then.
func TestDoneFull(t *testing.T) {
	m := message("m", 1)
	one, ended := size(m, "g/#"), 8+1+2+3+4
	for extra, want := range map[int]string{0: "x/2 +g/#2 -g/#1", ended - 1: "x/2 +g/#2 -g/#1", ended: "+g/#1 +g/#2 -g/#1"} {
		g, d := open(2*one + extra)
		join(t, g, "g/# a")
		publish(t, g, m, "", "g/#")
		publish(t, g, m, "", "g/#")
		g.Sent(api.Msg{Group: "g/#", Seq: 1}, "a")
		says(t, "1 done", g.Done(api.Msg{Group: "g/#", Seq: 1}, "a"), true)
		journal(t, d, want, true)
	}
}

// Gs3: the journal is written anew by what lasts, group by group, and by the greatest number.
func TestCompact(t *testing.T) {
	g, d := open(10000)
	says(t, "Compact", g.Compact(), true)
	journal(t, d, "", false)
	join(t, g, "h/# a", "g/# a")
	publish(t, g, message("m", 1), "", "h/#", "g/#")
	publish(t, g, message("n", 0), "", "h/#", "g/#")
	publish(t, g, message("o", 2), "", "h/#", "g/#")
	g.Sent(api.Msg{Group: "g/#", Seq: 2}, "a")
	g.Done(api.Msg{Group: "g/#", Seq: 2}, "a")
	g.Sent(api.Msg{Group: "h/#", Seq: 1}, "a")
	says(t, "Compact", g.Compact(), true)
	journal(t, d, "x/6 +g/#6 +h/#1 +h/#5", false)
	queues(t, g, "g/# n4 o6", "h/# m1:a* n3 o5")
	queues(t, groups.Open(bounds, d), "g/# o6*", "h/# m1* o5*")
	if g.Waits() {
		t.Error("the journal waits")
	}
	// What is to be written may have no room, though what was there has.
	g, d = open(size(message("m", 1), "g/#"))
	join(t, g, "g/# a")
	publish(t, g, message("m", 1), "", "g/#")
	says(t, "Compact without room", g.Compact(), false)
	journal(t, d, "+g/#1", true)
}

// R3: lists are neither kept, nor handed out, nor changed.
func TestListsAreNew(t *testing.T) {
	g, _ := open(10000)
	join(t, g, "g/# a", "h/# a")
	m, keys := message("m", 1), []string{"h/#", "g/#"}
	publish(t, g, m, "", keys...)
	m.Props[0].S, keys[0] = "y", "z"
	g.Items("g/#")[0].Msg.Props[0].S = "y"
	g.Keys()[0] = "z"
	g.Members("g/#")[0].Client = "z"
	n, _, _ := g.Next([]string{"a"})
	n.Props[0].S = "y"
	for _, key := range g.Keys() {
		if l := g.Items(key); len(l) != 1 || l[0].Msg.Props[0].S != "x" {
			t.Errorf("in %s: %+v", key, l)
		}
	}
	queues(t, g, "g/# m2", "h/# m1")
}

// Gs4: what was published is in all of the queues or in none; after a crash what is sure is there, and of the rest what a prefix of it leads to.
func TestCrashes(t *testing.T) {
	rnd := rand.New(rand.NewSource(36))
	for range 500 {
		g, d := open(1500)
		join(t, g, "g/# a", "h/# a", "h/# b")
		var sure, later, ended []string // messages that are surely there, that were published behind those, and of both those that ended
		all := func() []string {
			var l []string
			for _, key := range g.Keys() {
				for _, x := range g.Items(key) {
					l = append(l, fmt.Sprint(key, x.Msg.Seq, x.Msg.Topic))
				}
			}
			return l
		}
		for i := range 1 + rnd.Intn(40) {
			before := d.Sure()
			switch rnd.Intn(6) {
			case 0, 1:
				keys := [][]string{{"g/#"}, {"h/#"}, {"h/#", "g/#"}}[rnd.Intn(3)]
				last, many := g.Last(), len(all())
				err := g.Publish(message(fmt.Sprint("t", i), 1), keys, 0)
				if n := len(all()) - many; err == nil && (n != len(keys) || g.Last() != last+n) || err != nil && (n != 0 || g.Last() != last) {
					t.Fatalf("%d of %q are there: %v", n, keys, err)
				}
				for k := last; k < g.Last(); k++ {
					later = append(later, fmt.Sprint(keys[k-last], k+1, "t", i))
				}
			case 2, 3:
				if m, client, ok := g.Next([]string{"a", "b"}); ok {
					g.Sent(m, client)
				}
			case 4:
				for _, key := range g.Keys() {
					for _, x := range g.Items(key) {
						if rnd.Intn(2) > 0 && g.Done(x.Msg, x.At) {
							ended = append(ended, fmt.Sprint(key, x.Msg.Seq, x.Msg.Topic))
						}
					}
				}
			case 5:
				g.Sync()
			}
			if d.Sure() != before || !g.Waits() {
				sure, later, ended = all(), nil, nil
			}
		}
		d.Crash(rnd.Intn(len(d.Bytes()) - d.Sure() + 1))
		g = groups.Open(bounds, d)
		there := all()
		for _, s := range there {
			if !slices.Contains(sure, s) && !slices.Contains(later, s) {
				t.Fatalf("%s is there, of %q and %q", s, sure, later)
			}
		}
		for _, s := range sure {
			if !slices.Contains(there, s) && !slices.Contains(ended, s) {
				t.Fatalf("%s is lost; there are %q", s, there)
			}
		}
		missing := ""
		for _, s := range later {
			if is := slices.Contains(there, s); is && missing != "" {
				t.Fatalf("%s is there without %s", s, missing)
			} else if !is && !slices.Contains(ended, s) {
				missing = s
			}
		}
		for _, key := range g.Keys() {
			for _, x := range g.Items(key) {
				if x.At != "" || !x.Again {
					t.Fatalf("after a crash: %+v", x)
				}
			}
		}
	}
}
