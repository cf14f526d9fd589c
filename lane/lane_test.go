package lane_test

import (
	"fmt"
	"math"
	"math/rand"
	"slices"
	"strings"
	"testing"

	"towncrier/api"
	"towncrier/lane"
)

// items are messages, each written as its topic, and, if it is in transit, a colon and to whom.
func items(text string) []api.Item {
	var l []api.Item
	for _, s := range strings.Fields(text) {
		topic, at, _ := strings.Cut(s, ":")
		l = append(l, api.Item{Msg: api.Msg{Topic: topic, Payload: "p", Group: "g"}, At: at})
	}
	return l
}

// La1: the key is the topic.
func TestKey(t *testing.T) {
	for _, topic := range []string{"", "a", "a/b", "\xff"} {
		if key := lane.Key(api.Msg{Topic: topic, Payload: "p", From: "f", Group: "g", Seq: 3}); key != topic {
			t.Errorf("Key = %q, want %q", key, topic)
		}
	}
}

// La1: the owner of a lane is the one to whom its first message in transit went.
func TestOwner(t *testing.T) {
	for _, x := range []struct{ items, key, want string }{
		{"", "a", ""}, {"a", "a", ""}, {"a:x", "a", "x"}, {"a:x", "b", ""}, {"a b:y a:x", "a", "x"}, {"a b:y a:x a:z", "b", "y"}, {"a a:z a:x", "a", "z"}, {"b:y", "", ""}, {":y", "", "y"},
	} {
		if who, ok := lane.Owner(items(x.items), x.key); who != x.want || ok != (x.want != "") {
			t.Errorf("Owner(%s; %q) = %q, %v; want %q", x.items, x.key, who, ok, x.want)
		}
	}
}

// La1: the heads are the first that wait in their lanes.
func TestHead(t *testing.T) {
	for _, x := range []struct {
		items string
		want  []int
	}{
		{"", nil}, {"a", []int{0}}, {"a a", []int{0}}, {"a b", []int{0, 1}}, {"b a b a c", []int{0, 1, 4}}, {"a:x a", []int{1}}, {"a a:x", []int{0}}, {"a:x", nil}, {"a:x b:y a b a b", []int{2, 3}}, {"a:x b a:x b a a", []int{1, 4}},
	} {
		if l := lane.Head(items(x.items)); !slices.Equal(l, x.want) {
			t.Errorf("Head(%s) = %v, want %v", x.items, l, x.want)
		}
	}
}

// La1: what may be sent is the first that waits, to whom all of its lane goes; the chapter's example is a:x a.
func TestMay(t *testing.T) {
	for _, x := range []struct {
		items  string
		at     int
		client string
		want   bool
	}{
		{"", 0, "x", false}, {"a", 0, "x", true}, {"a", 0, "", true}, {"a", 1, "x", false}, {"a", -1, "x", false}, {"a", math.MinInt, "x", false}, {"a", math.MaxInt, "x", false},
		{"a:x a", 1, "x", true}, {"a:x a", 1, "y", false}, {"a:x a", 1, "", false}, {"a:x a", 0, "x", false}, {"a a", 1, "x", false}, {"a a", 0, "x", true}, {"b a", 1, "x", true}, {"b:y a", 1, "x", true},
		{"a a:x", 0, "x", true}, {"a a:x", 0, "y", false}, {"a:x a a:y", 1, "x", false}, {"a:x a a:y", 1, "y", false}, {"a:x a a:x", 1, "x", true}, {"a:x a a", 2, "x", false},
	} {
		if got := lane.May(items(x.items), x.at, x.client); got != x.want {
			t.Errorf("May(%s; %d, %q) = %v", x.items, x.at, x.client, got)
		}
	}
}

// La1: lanes are sound if all that is in transit in one goes to one client.
func TestSound(t *testing.T) {
	for s, want := range map[string]bool{
		"": true, "a a a": true, "a:x": true, "a:x a:x": true, "a:x a:y": false, "a:x b:y": true, "a:x b:y a a:x b:y": true, "a:x b:y a b:x": false, "a a:x a a:x a a:y": false, "b:y a:x b:z a:x": false,
	} {
		if lane.Sound(items(s)) != want {
			t.Errorf("Sound(%s) = %v", s, !want)
		}
	}
}

// R3: what is passed is not changed.
func TestListsStay(t *testing.T) {
	l := items("a:x b a b:y a")
	before := fmt.Sprint(l)
	lane.Owner(l, "a")
	lane.Head(l)
	lane.May(l, 2, "x")
	lane.Sound(l)
	if fmt.Sprint(l) != before {
		t.Errorf("%s became %v", before, l)
	}
}

// La2: what may be sent, and is, leaves lanes sound, overtakes nothing that waits, and changes no key's client while something is in transit.
func TestSends(t *testing.T) {
	rnd := rand.New(rand.NewSource(33))
	for range 300 {
		var l []api.Item
		for range 80 {
			switch rnd.Intn(4) {
			case 0:
				l = append(l, items([]string{"a", "b", "c"}[rnd.Intn(3)])...)
			case 1:
				if len(l) > 0 {
					if i := rnd.Intn(len(l)); l[i].At != "" && rnd.Intn(2) > 0 {
						l[i].At = ""
					} else if l[i].At != "" {
						l = slices.Delete(l, i, i+1)
					}
				}
			default:
				at, client := rnd.Intn(len(l)+1), []string{"x", "y"}[rnd.Intn(2)]
				if !lane.May(l, at, client) {
					break
				}
				if owner, ok := lane.Owner(l, lane.Key(l[at].Msg)); ok && owner != client || !slices.Contains(lane.Head(l), at) {
					t.Fatalf("%d of %+v may go to %s", at, l, client)
				}
				l[at].At = client
			}
			if !lane.Sound(l) {
				t.Fatalf("%+v is not sound", l)
			}
			for _, at := range lane.Head(l) {
				if owner, ok := lane.Owner(l, lane.Key(l[at].Msg)); !lane.May(l, at, owner) || ok == lane.May(l, at, "z") {
					t.Fatalf("%d of %+v, which is owned by %q, may not go there", at, l, owner)
				}
			}
		}
	}
}
