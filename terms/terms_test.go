package terms_test

import (
	"fmt"
	"math"
	"math/rand"
	"slices"
	"testing"

	"towncrier/api"
	"towncrier/prop"
	"towncrier/terms"
)

// wrong fails the test unless the first bound that is not valid is the one at a place, -1 for none.
func wrong(t *testing.T, c api.Config, at int) {
	t.Helper()
	want, told := "", ""
	if at >= 0 {
		want = fmt.Sprint("no such thing, reason 131, at ", at)
	}
	if err := terms.Check(c); err != nil {
		told = err.Error()
	}
	if told != want {
		t.Errorf("Check(%+v) = %q, want %q", c, told, want)
	}
}

// fields are the bounds of a configuration, in their order.
func fields(c *api.Config) []*int {
	return []*int{&c.Conns, &c.Packet, &c.Receive, &c.Aliases, &c.Queue, &c.Group, &c.Out, &c.Disk, &c.Clients, &c.Retained, &c.Keep, &c.Wait, &c.Session}
}

// ranges are between which numbers they are valid.
func ranges() [][2]int {
	return [][2]int{{1, 8}, {64, 65536}, {1, 65535}, {0, 65535}, {0, 65536}, {0, 65536}, {64, 1 << 20}, {0, 1 << 24}, {1, 8}, {0, 65536}, {0, 65535}, {0, 1<<32 - 1}, {0, 1<<32 - 1}}
}

// Te1: each bound at its edges and beyond.
func TestCheck(t *testing.T) {
	for i, r := range ranges() {
		for _, n := range []int{r[0], r[0] + 1, r[1] - 1, r[1]} {
			c := terms.Usual()
			*fields(&c)[i] = n
			wrong(t, c, -1)
		}
		for _, n := range []int{r[0] - 1, r[1] + 1, -1, math.MinInt, math.MaxInt, 1 << 40} {
			c := terms.Usual()
			*fields(&c)[i] = n
			wrong(t, c, i)
		}
	}
	wrong(t, api.Config{}, 0)
	wrong(t, api.Config{Conns: 1}, 1)
}

// Te1: the first one counts.
func TestCheckFirst(t *testing.T) {
	for i := range 13 {
		c := terms.Usual()
		for j := i; j < 13; j++ {
			*fields(&c)[j] = -1
		}
		wrong(t, c, i)
	}
}

// Te1: the usual bounds.
func TestUsual(t *testing.T) {
	want := api.Config{Conns: 8, Packet: 1024, Receive: 8, Aliases: 4, Queue: 16, Group: 16, Out: 4096, Disk: 65536, Clients: 8, Retained: 16, Session: 1000}
	if c := terms.Usual(); c != want {
		t.Errorf("Usual() = %+v, want %+v", c, want)
	}
	wrong(t, terms.Usual(), -1)
}

// Te2: what a client doesn't say.
func TestOfNothing(t *testing.T) {
	want := api.Terms{Expiry: 0, Receive: 65535, Packet: 1<<28 - 1, Aliases: 0, Keep: 0, Problem: true}
	if got := terms.Of(terms.Usual(), api.Packet{}); got != want {
		t.Errorf("Of nothing = %+v, want %+v", got, want)
	}
}

// says fails the test unless a client that says this comes to these terms.
func says(t *testing.T, c api.Config, keep int, props []api.Prop, change func(*api.Terms)) {
	t.Helper()
	want := api.Terms{Receive: 65535, Packet: 1<<28 - 1, Problem: true}
	change(&want)
	if got := terms.Of(c, api.Packet{Kind: api.Connect, Keep: keep, Props: props}); got != want {
		t.Errorf("Of keep-alive %d, %v = %+v, want %+v", keep, props, got, want)
	}
}

// Te2: what a client says; the chapter's example is an expiry of 5.
func TestOf(t *testing.T) {
	c := terms.Usual()
	for n, want := range map[int]int{5: 5, 0: 0, 999: 999, 1000: 1000, 1001: 1000, 1<<32 - 1: 1000} {
		says(t, c, 0, []api.Prop{{Id: 17, N: n}}, func(x *api.Terms) { x.Expiry = want })
	}
	c.Session = 1<<32 - 1
	says(t, c, 0, []api.Prop{{Id: 17, N: 1<<32 - 1}}, func(x *api.Terms) { x.Expiry = 1<<32 - 1 })
	c.Session = 0
	says(t, c, 0, []api.Prop{{Id: 17, N: 7}}, func(x *api.Terms) {})
	for _, n := range []int{1, 7, 65535} {
		says(t, c, 0, []api.Prop{{Id: 33, N: n}}, func(x *api.Terms) { x.Receive = n })
		says(t, c, 0, []api.Prop{{Id: 39, N: n}}, func(x *api.Terms) { x.Packet = n })
		says(t, c, 0, []api.Prop{{Id: 34, N: n}}, func(x *api.Terms) { x.Aliases = n })
	}
	says(t, c, 0, []api.Prop{{Id: 39, N: 1<<32 - 1}}, func(x *api.Terms) { x.Packet = 1<<32 - 1 })
	says(t, c, 0, []api.Prop{{Id: 34, N: 65536}}, func(x *api.Terms) { x.Aliases = 65535 })
	says(t, c, 0, []api.Prop{{Id: 34, N: 0}}, func(x *api.Terms) {})
	for n, want := range map[int]bool{0: false, 1: true, 2: false} {
		says(t, c, 0, []api.Prop{{Id: 23, N: n}}, func(x *api.Terms) { x.Problem = want })
	}
	all := []api.Prop{{Id: 38}, {Id: 39, N: 100}, {Id: 23}, {Id: 34, N: 3}, {Id: 33, N: 2}, {Id: 17, N: 5}, {Id: 17, N: 6}}
	says(t, terms.Usual(), 9, all, func(x *api.Terms) { *x = api.Terms{Expiry: 5, Receive: 2, Packet: 100, Aliases: 3, Keep: 9} })
}

// Te2: the keep-alive is the client's, unless the broker's is shorter.
func TestOfKeep(t *testing.T) {
	for _, x := range []struct{ broker, client, want int }{
		{0, 0, 0}, {0, 7, 7}, {0, 65535, 65535}, {5, 0, 5}, {5, 1, 1}, {5, 4, 4}, {5, 5, 5}, {5, 6, 5}, {5, 65535, 5}, {65535, 0, 65535}, {65535, 65535, 65535}, {-1, 0, 0}, {-1, 7, 7}, {5, -3, -3},
	} {
		c := terms.Usual()
		c.Keep = x.broker
		says(t, c, x.client, nil, func(y *api.Terms) { y.Keep = x.want })
	}
}

// replied fails the test unless a client that says this is told these properties.
func replied(t *testing.T, c api.Config, p api.Packet, assigned string, want ...api.Prop) {
	t.Helper()
	if l := terms.Reply(c, p, assigned); !slices.Equal(l, want) {
		t.Errorf("Reply(%+v, %+v, %q) = %v, want %v", c, p, assigned, l, want)
	}
}

// Te2: what a client is told, in its order.
func TestReply(t *testing.T) {
	c := terms.Usual()
	replied(t, c, api.Packet{}, "", api.Prop{Id: 33, N: 8}, api.Prop{Id: 39, N: 1024}, api.Prop{Id: 34, N: 4})
	c.Keep = 20
	long := api.Packet{Kind: api.Connect, Keep: 30, Props: []api.Prop{{Id: 17, N: 2000}}}
	replied(t, c, long, "auto1", api.Prop{Id: 17, N: 1000}, api.Prop{Id: 33, N: 8}, api.Prop{Id: 39, N: 1024}, api.Prop{Id: 18, S: "auto1"}, api.Prop{Id: 34, N: 4}, api.Prop{Id: 19, N: 20})
	c.Receive, c.Aliases = 65535, 0
	replied(t, c, long, "", api.Prop{Id: 17, N: 1000}, api.Prop{Id: 39, N: 1024}, api.Prop{Id: 19, N: 20})
	replied(t, c, api.Packet{Keep: 20, Props: []api.Prop{{Id: 17, N: 1000}}}, "", api.Prop{Id: 39, N: 1024})
	replied(t, c, api.Packet{Keep: 1, Props: []api.Prop{{Id: 17, N: 1001}}}, "x", api.Prop{Id: 17, N: 1000}, api.Prop{Id: 39, N: 1024}, api.Prop{Id: 18, S: "x"})
	replied(t, c, api.Packet{}, "", api.Prop{Id: 39, N: 1024}, api.Prop{Id: 19, N: 20})
	c.Receive, c.Aliases, c.Keep, c.Session = 65534, 1, 0, 0
	replied(t, c, api.Packet{Keep: 5, Props: []api.Prop{{Id: 17, N: 1}}}, "", api.Prop{Id: 17}, api.Prop{Id: 33, N: 65534}, api.Prop{Id: 39, N: 1024}, api.Prop{Id: 34, N: 1})
}

// Te3: the expiry behind a Disconnect.
func TestEnded(t *testing.T) {
	for _, x := range []struct {
		expiry int
		props  []api.Prop
		want   int
		ok     bool
	}{
		{0, nil, 0, true}, {7, nil, 7, true}, {1<<32 - 1, nil, 1<<32 - 1, true},
		{0, []api.Prop{{Id: 17, N: 0}}, 0, true}, {7, []api.Prop{{Id: 17, N: 0}}, 0, true}, {7, []api.Prop{{Id: 17, N: 3}}, 3, true}, {7, []api.Prop{{Id: 17, N: 900}}, 900, true},
		{0, []api.Prop{{Id: 17, N: 1}}, 0, false}, {0, []api.Prop{{Id: 38}, {Id: 17, N: 1<<32 - 1}}, 0, false}, {1, []api.Prop{{Id: 17, N: 1<<32 - 1}}, 1<<32 - 1, true},
		{0, []api.Prop{{Id: 31, S: "x"}, {Id: 28}}, 0, true}, {7, []api.Prop{{Id: 31, S: "x"}, {Id: 28, N: 4}}, 7, true},
	} {
		n, ok := terms.Ended(api.Terms{Expiry: x.expiry, Keep: 3, Receive: 4}, api.Packet{Kind: api.Disconnect, Props: x.props})
		if n != x.want || ok != x.ok {
			t.Errorf("Ended(%d, %v) = %d, %v; want %d, %v", x.expiry, x.props, n, ok, x.want, x.ok)
		}
	}
}

// Te4: a broker never announces more than its bounds, and nothing that a Connack may not have.
func TestAnnounced(t *testing.T) {
	rnd := rand.New(rand.NewSource(28))
	for range 5000 {
		var c api.Config
		for i, r := range ranges() {
			*fields(&c)[i] = []int{r[0], r[1], r[0] + rnd.Intn(r[1]-r[0]+1), min(r[1], r[0]+rnd.Intn(9))}[rnd.Intn(4)]
		}
		wrong(t, c, -1)
		p := api.Packet{Keep: []int{0, 1, 65535, rnd.Intn(65536)}[rnd.Intn(4)]}
		for _, id := range []int{17, 33, 34, 39, 23} {
			if rnd.Intn(2) > 0 {
				p.Props = append(p.Props, api.Prop{Id: id, N: 1 + []int{0, 5, 60000, 1 << 30}[rnd.Intn(4)]})
			}
		}
		l := terms.Reply(c, p, []string{"", "auto7"}[rnd.Intn(2)])
		if err := prop.Check(api.Connack, l); err != nil {
			t.Fatalf("%v: %v", l, err)
		}
		if _, err := prop.Encode(api.Connack, l); err != nil {
			t.Fatalf("%v: %v", l, err)
		}
		for id, most := range map[int]int{17: c.Session, 33: c.Receive, 39: c.Packet, 34: c.Aliases, 19: c.Keep} {
			if n := prop.Number(l, id, 0); n > most {
				t.Fatalf("%d is %d, but the bound is %d", id, n, most)
			}
		}
		if x := terms.Of(c, p); x.Expiry > c.Session || c.Keep > 0 && (x.Keep > c.Keep || x.Keep == 0) {
			t.Fatalf("%+v of bounds %+v", x, c)
		}
	}
}
