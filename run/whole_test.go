package run_test

import (
	"fmt"
	"math/rand"
	"slices"
	"strconv"
	"strings"
	"testing"

	"towncrier/api"
	"towncrier/fair"
	"towncrier/ledger"
	"towncrier/packet"
	"towncrier/run"
	"towncrier/terms"
	"towncrier/world"
)

// mill makes events by chance: clients p and q publish numbered messages, and m, n and o are members of a group.
type mill struct {
	*rand.Rand
	t      *testing.T
	w      *world.World
	filter string
	many   int            // messages so far
	next   map[string]int // the next numbers of publishers' messages
	events []api.Event
}

// step lets an event happen.
func (m *mill) step(e api.Event) {
	m.events = append(m.events, e)
	m.w.Step(e)
}

// in lets packets come in.
func (m *mill) in(k int, l ...api.Packet) {
	m.step(feed(m.t, k, l...))
}

// any lets any event happen; connections 0 and 1 are those of publishers, and 2 to 4 those of members.
func (m *mill) any() {
	k := m.Intn(5)
	client := "pqmno"[k : k+1]
	b := m.w.Broker()
	switch n := m.Intn(30); {
	case n == 0:
		m.step(api.Event{Kind: api.EvDrop, Conn: k})
	case n < 3:
		m.step(api.Event{Kind: api.EvSync})
	case n == 3 && m.Intn(3) == 0:
		m.step(api.Event{Kind: api.EvCrash, N: m.Intn(300)})
	case n < 6:
		m.step(api.Event{Kind: api.EvDrain, Conn: k, N: m.Intn(200)})
	case !b.IsOpen(k):
		m.step(open(k))
		m.in(k, connect(client))
		if k > 1 {
			m.in(k, subscribe(m.Intn(3), "$share/"+m.filter))
		}
	case k < 2:
		m.publish(k, client)
	default:
		m.acknowledge(k, client)
	}
}

// publish lets a message come in, and its number be released if that is possible.
func (m *mill) publish(k int, client string) {
	m.many++
	id := m.next[client]%60000 + 1
	m.next[client] = id
	if qos := m.Intn(3); qos == 0 {
		m.in(k, publish(fmt.Sprint("t", m.Intn(2)), strconv.Itoa(m.many), 0, 0))
	} else {
		m.in(k, publish(fmt.Sprint("t", m.Intn(2)), strconv.Itoa(m.many), qos, id))
	}
	for id := max(1, m.next[client]-9); id < m.next[client] && m.w.Broker().IsOpen(k) && !m.w.Broker().Waits(); id++ {
		m.in(k, ack(api.Pubrel, id, 0))
	}
}

// acknowledge lets an acknowledgement come in of something that is in transit, a bad one now and then.
func (m *mill) acknowledge(k int, client string) {
	l := m.w.Broker().Flights(client)
	if len(l) == 0 {
		return
	}
	f := l[m.Intn(len(l))]
	p := ack([]int{api.Puback, api.Pubrec, api.Pubcomp}[f.State-1], f.Id, 0)
	if f.State < 3 && m.Intn(5) == 0 {
		p.Reason = 0x80
	}
	m.in(k, p)
}

// grind is what a mill made of a filter.
func grind(t *testing.T, seed int64, filter string, events int) *mill {
	c := bounds()
	w, err := world.New(c)
	if err != nil {
		t.Fatal(err)
	}
	m := &mill{Rand: rand.New(rand.NewSource(seed)), t: t, w: w, filter: filter, next: map[string]int{}}
	for range events {
		m.any()
	}
	return m
}

// bounds are those of the brokers of mills.
func bounds() api.Config {
	c := terms.Usual()
	c.Conns, c.Clients, c.Receive, c.Group, c.Disk, c.Out = 5, 5, 20, 8, 3000, 300
	return c
}

// filters are those of groups, of each strategy.
func filters() []string {
	return []string{"g/#", "s-g/#", "h-g/#", "l-g/+", "x-g/#"}
}

// P2, P4: what was answered with a good code is in the queue, unless a member got it with QoS 0 or acknowledged it, whatever crashes; after a crash, what waits may have been sent.
func TestNoLoss(t *testing.T) {
	good := 0
	for seed := range 150 {
		m := grind(t, int64(seed), filters()[seed%5], 400)
		l, c := m.w.Log(), bounds()
		there := map[string]bool{}
		for _, key := range m.w.Broker().Keys() {
			for _, x := range m.w.Broker().Items(key) {
				there[x.Msg.Payload] = true
			}
		}
		for _, conn := range ledger.Conns(l) {
			for _, x := range ledger.Went(c, l, conn) {
				if x.Qos == 0 || x.Answered && x.Reason < 0x80 {
					there[x.Payload] = true
				}
			}
		}
		for _, conn := range ledger.Conns(l) {
			for _, x := range ledger.Came(c, l, conn) {
				if x.Answered && x.Reason == 0 {
					good++
					if !there[x.Payload] {
						t.Fatalf("seed %d: %+v is lost", seed, x)
					}
				}
			}
		}
	}
	if good < 3000 {
		t.Errorf("only %d messages were answered with 0", good)
	}
}

// P3: by keys, of two messages of a topic the second one is never sent for the first time before the first one.
func TestOrder(t *testing.T) {
	sent := 0
	for seed := range 100 {
		m := grind(t, int64(1000+seed), "h-g/#", 400)
		last := map[string]int{}
		seen := map[int]bool{}
		for _, x := range m.w.Log() {
			if x.Kind == api.TrCrash {
				// What was sent, but was not sure, may be gone; what comes has later numbers all the same.
				continue
			}
			if x.Kind != api.TrOut {
				continue
			}
			l, err := packet.All(x.Bytes, len(x.Bytes))
			if err != nil {
				t.Fatal(err)
			}
			for _, p := range l {
				n, _ := strconv.Atoi(p.Payload)
				if p.Kind != api.Publish || seen[n] {
					continue
				}
				if n < last[p.Topic] {
					t.Fatalf("seed %d: %d is sent behind %d", seed, n, last[p.Topic])
				}
				last[p.Topic], seen[n] = n, true
				sent++
			}
		}
	}
	if sent < 3000 {
		t.Errorf("only %d messages were sent", sent)
	}
}

// P5: when all is received and acknowledged, all messages of a group of which a member is present are acknowledged after so many rounds.
func TestCompletion(t *testing.T) {
	for seed := range 100 {
		m := grind(t, int64(2000+seed), filters()[seed%5], 200)
		fair.Drive(m.w, fair.Bound(m.w))
		if !fair.Rest(m.w) {
			t.Fatalf("seed %d: there is no rest", seed)
		}
	}
}

// Rn2: no rule is violated in any report, and it is the same each time.
func TestNoRuleIsBroken(t *testing.T) {
	for seed := range 60 {
		m := grind(t, int64(3000+seed), filters()[seed%5], 200)
		s, err := run.Lines(bounds(), m.events)
		if err != nil {
			t.Fatal(err)
		}
		lines := strings.Split(strings.TrimSuffix(s, "\n"), "\n")
		for _, line := range lines {
			if words := strings.Fields(line); words[0] == "conn" && !slices.Equal(words[len(words)-2:], []string{"0", "0"}) {
				t.Fatalf("seed %d: %s", seed, line)
			}
		}
		if again, _ := run.Lines(bounds(), m.events); again != s || len(lines) != len(ledger.Conns(m.w.Log()))+len(m.w.Broker().Keys())+1 {
			t.Fatalf("seed %d: %s, and again %s", seed, s, again)
		}
	}
}
