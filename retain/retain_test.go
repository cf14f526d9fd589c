package retain_test

import (
	"fmt"
	"math"
	"math/rand"
	"slices"
	"strings"
	"testing"

	"towncrier/api"
	"towncrier/retain"
	"towncrier/topic"
)

// on is a message of a topic.
func on(topic, payload string) api.Msg {
	return api.Msg{Topic: topic, Payload: payload}
}

// put fails the test unless a message is put, or refused, as it is told.
func put(t *testing.T, s *retain.Store, m api.Msg, want bool) {
	t.Helper()
	if ok := s.Put(m); ok != want {
		t.Errorf("Put(%.60v) = %v", m, ok)
	}
}

// has fails the test unless the store has just these messages, in this order.
func has(t *testing.T, s *retain.Store, l ...api.Msg) {
	t.Helper()
	if s.Len() != len(l) {
		t.Errorf("Len() = %d, want %d", s.Len(), len(l))
	}
	var open []api.Msg
	for _, m := range l {
		if got, ok := s.Get(m.Topic); fmt.Sprint(got) != fmt.Sprint(m) || !ok {
			t.Errorf("Get(%q) = %v, %v; want %v", m.Topic, got, ok, m)
		}
		if m.Topic[0] != '$' {
			open = append(open, m)
		}
	}
	if got := s.Match("#"); fmt.Sprint(got) != fmt.Sprint(open) {
		t.Errorf("Match(#) = %v, want %v", got, open)
	}
}

// hasNot fails the test unless the store has no message of a topic.
func hasNot(t *testing.T, s *retain.Store, topic string) {
	t.Helper()
	if m, ok := s.Get(topic); fmt.Sprint(m) != fmt.Sprint(api.Msg{}) || ok {
		t.Errorf("Get(%q) = %v, %v", topic, m, ok)
	}
}

// Rt1: what is put is there, whole; a later one takes its place; the chapter's example removes it.
func TestPut(t *testing.T) {
	s := retain.New(5)
	has(t, s)
	hasNot(t, s, "a")
	full := api.Msg{Topic: "a", Payload: "p", Qos: 2, Retain: true, Props: []api.Prop{{Id: 3, S: "t"}}, From: "f", Until: 7, Seq: 8, Group: "g"}
	put(t, s, full, true)
	has(t, s, full)
	put(t, s, on("b/c", "q"), true)
	has(t, s, full, on("b/c", "q"))
	put(t, s, on("a", "new"), true)
	has(t, s, on("a", "new"), on("b/c", "q"))
	put(t, s, on("a", ""), true)
	has(t, s, on("b/c", "q"))
	hasNot(t, s, "a")
	put(t, s, on("a", ""), true)
	put(t, s, on("x", ""), true)
	put(t, s, api.Msg{Topic: "b/c", Qos: 1, Retain: true, Props: full.Props}, true)
	has(t, s)
	put(t, s, on("a", "\x00"), true)
	has(t, s, on("a", "\x00"))
}

// Rt1: topics that are no valid names, with and without a payload.
func TestPutRefuses(t *testing.T) {
	s := retain.New(5)
	put(t, s, on("a", "p"), true)
	for _, name := range []string{"", "#", "+", "a/#", "a/+", "a+", "\x00", "a\xff", strings.Repeat("/", 32), strings.Repeat("a", 65536)} {
		put(t, s, on(name, "p"), false)
		put(t, s, on(name, ""), false)
		hasNot(t, s, name)
	}
	has(t, s, on("a", "p"))
}

// Rt1: there is room for so many topics.
func TestRoom(t *testing.T) {
	s := retain.New(2)
	put(t, s, on("a", "1"), true)
	put(t, s, on("b", "2"), true)
	put(t, s, on("c", "3"), false)
	hasNot(t, s, "c")
	put(t, s, on("c", ""), true)
	put(t, s, on("a", "4"), true)
	has(t, s, on("a", "4"), on("b", "2"))
	put(t, s, on("a", ""), true)
	put(t, s, on("c", "5"), true)
	put(t, s, on("a", "6"), false)
	has(t, s, on("b", "2"), on("c", "5"))
	s = retain.New(math.MaxInt)
	put(t, s, on("a", "1"), true)
	has(t, s, on("a", "1"))
}

// Rt1: stores without room, a zero one, and none at all.
func TestNoRoom(t *testing.T) {
	for _, s := range []*retain.Store{retain.New(0), retain.New(-1), retain.New(math.MinInt), {}, nil} {
		put(t, s, on("a", "p"), false)
		put(t, s, on("a", ""), true)
		put(t, s, on("a/#", ""), false)
		put(t, s, on("", "p"), false)
		has(t, s)
		hasNot(t, s, "a")
		if n := s.Expire(math.MaxInt); n != 0 {
			t.Errorf("Expire = %d", n)
		}
	}
}

// Rt1: those that a filter takes, in the order of their topics, byte by byte.
func TestMatch(t *testing.T) {
	s := retain.New(20)
	l := []string{"$", "$s/a", "/", "/a", "A", "a", "a/", "a/b", "a/b/c", "aa", "b", "b/a", "\u00f6"}
	for i := range l {
		put(t, s, on(l[len(l)-1-i], "p"), true)
	}
	for filter, want := range map[string][]string{
		"#": l[2:], "+": {"A", "a", "aa", "b", "\u00f6"}, "a": {"a"}, "a/#": {"a", "a/", "a/b", "a/b/c"}, "a/+": {"a/", "a/b"}, "+/a": {"/a", "b/a"},
		"$s/#": {"$s/a"}, "$/#": {"$"}, "/#": {"/", "/a"}, "x": nil, "": nil, "a#": nil, "#/a": nil, "\xff": nil,
	} {
		var names []string
		for _, m := range s.Match(filter) {
			names = append(names, m.Topic)
		}
		if !slices.Equal(names, want) {
			t.Errorf("Match(%q) = %q, want %q", filter, names, want)
		}
	}
}

// Rt1: messages that have expired stay until they are removed.
func TestExpire(t *testing.T) {
	until := func(topic string, n int) api.Msg { return api.Msg{Topic: topic, Payload: "p", Until: n} }
	s := retain.New(9)
	l := []api.Msg{until("a", -1), until("b", 0), until("c", 1), until("d", 5), until("e", 5), until("f", 6), until("g", math.MaxInt)}
	for _, m := range l {
		put(t, s, m, true)
	}
	for _, step := range []struct{ now, gone, left int }{{math.MinInt, 0, 7}, {-1, 0, 7}, {0, 0, 7}, {1, 1, 6}, {4, 0, 6}, {5, 2, 4}, {5, 0, 4}, {7, 1, 3}, {math.MaxInt - 1, 0, 3}, {math.MaxInt, 1, 2}, {math.MaxInt, 0, 2}} {
		has(t, s, l...)
		if n := s.Expire(step.now); n != step.gone || s.Len() != step.left {
			t.Errorf("Expire(%d) = %d, and %d are left", step.now, n, s.Len())
		}
		l = slices.DeleteFunc(l, func(m api.Msg) bool { return m.Until > 0 && m.Until <= step.now })
	}
	has(t, s, l...)
}

// R3: lists are neither kept nor handed out.
func TestListsAreNew(t *testing.T) {
	props := []api.Prop{{Id: 1, N: 1}}
	s := retain.New(2)
	put(t, s, api.Msg{Topic: "a", Payload: "p", Props: props}, true)
	props[0].N = 0
	got, _ := s.Get("a")
	got.Props[0].N = 2
	one, two := s.Match("a"), s.Match("#")
	one[0].Props[0].N = 3
	two[0].Payload = "x"
	has(t, s, api.Msg{Topic: "a", Payload: "p", Props: []api.Prop{{Id: 1, N: 1}}})
}

// Rt2: at most one message of a topic is there, the last one that was put; against a list of what is.
func TestAgainstList(t *testing.T) {
	rnd := rand.New(rand.NewSource(19))
	names := []string{"a", "b", "a/b", "/", "$x", "#", ""}
	for range 200 {
		most := rnd.Intn(6) - 1
		s := retain.New(most)
		known := map[string]api.Msg{}
		for i := range 60 {
			if rnd.Intn(8) == 0 {
				now, gone := rnd.Intn(60), 0
				for name, m := range known {
					if m.Until > 0 && m.Until <= now {
						delete(known, name)
						gone++
					}
				}
				if n := s.Expire(now); n != gone {
					t.Fatalf("Expire = %d, want %d", n, gone)
				}
			}
			m := api.Msg{Topic: names[rnd.Intn(len(names))], Payload: fmt.Sprint(i), Until: rnd.Intn(60) - 9}
			if rnd.Intn(4) == 0 {
				m.Payload = ""
			}
			_, is := known[m.Topic]
			want := topic.IsName(m.Topic) && (m.Payload == "" || is || len(known) < most)
			put(t, s, m, want)
			if want && m.Payload == "" {
				delete(known, m.Topic)
			} else if want {
				known[m.Topic] = m
			}
			var l []api.Msg
			for _, name := range []string{"$x", "/", "a", "a/b", "b"} {
				if m, is := known[name]; is {
					l = append(l, m)
				} else {
					hasNot(t, s, name)
				}
			}
			has(t, s, l...)
			if t.Failed() {
				return
			}
		}
	}
}
