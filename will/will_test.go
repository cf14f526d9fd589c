package will_test

import (
	"fmt"
	"math"
	"math/rand"
	"testing"

	"towncrier/api"
	"towncrier/will"
)

// same tells whether two values are the same; nil and the empty list are.
func same[T any](a, b T) bool {
	return fmt.Sprintf("%+v", a) == fmt.Sprintf("%+v", b)
}

// Wi1: a Publish as a message, without what is for its connection alone.
func TestOf(t *testing.T) {
	p := api.Packet{
		Kind: api.Publish, Id: 7, Reason: 3, Topic: "t", Payload: "p", Qos: 2, Retain: true, Dup: true, Client: "x",
		Props: []api.Prop{{Id: 35, N: 1}, {Id: 11, N: 2}, {Id: 3, S: "json"}, {Id: 11, N: 3}, {Id: 2, N: 10}, {Id: 38, S: "k", V: "v"}, {Id: 38, S: "k"}, {Id: 35, N: 2}},
	}
	want := api.Msg{Topic: "t", Payload: "p", Qos: 2, Retain: true, From: "c", Until: 15, Props: []api.Prop{{Id: 3, S: "json"}, {Id: 2, N: 10}, {Id: 38, S: "k", V: "v"}, {Id: 38, S: "k"}}}
	if m := will.Of(p, "c", 5); !same(m, want) {
		t.Errorf("Of = %+v, want %+v", m, want)
	}
	if m := will.Of(api.Packet{}, "", 5); !same(m, api.Msg{}) {
		t.Errorf("Of nothing = %+v", m)
	}
	if m := will.Of(api.Packet{Props: []api.Prop{{Id: 24, N: 1}}}, "", 5); !same(m, api.Msg{Props: []api.Prop{{Id: 24, N: 1}}}) {
		t.Errorf("Of one with a delay = %+v", m)
	}
}

// Wi1: a will as a message, without its delay.
func TestMsg(t *testing.T) {
	l := api.Last{
		Has: true, Topic: "t", Payload: "p", Qos: 1, Retain: true,
		Props: []api.Prop{{Id: 24, N: 9}, {Id: 1, N: 1}, {Id: 2, N: 10}, {Id: 24, N: 8}, {Id: 38, S: "k", V: "v"}},
	}
	want := api.Msg{Topic: "t", Payload: "p", Qos: 1, Retain: true, From: "c", Until: 15, Props: []api.Prop{{Id: 1, N: 1}, {Id: 2, N: 10}, {Id: 38, S: "k", V: "v"}}}
	if m := will.Msg(l, "c", 5); !same(m, want) {
		t.Errorf("Msg = %+v, want %+v", m, want)
	}
	if m := will.Msg(api.Last{}, "c", 5); !same(m, api.Msg{From: "c"}) {
		t.Errorf("Msg of nothing = %+v", m)
	}
}

// Wi1: when a message is to be thrown away, a Publish and a will alike.
func TestUntil(t *testing.T) {
	const most, latest = 1<<32 - 1, 1 << 40
	for _, x := range []struct{ now, n, want int }{
		{0, 0, 0}, {0, 1, 1}, {5, 0, 5}, {5, 7, 12}, {5, most, 5 + most}, {5, most + 1, 5 + most}, {5, math.MaxInt, 5 + most}, {5, -1, 5}, {5, math.MinInt, 5},
		{-1, 3, 3}, {math.MinInt, 3, 3}, {-1, most, most}, {latest, 0, latest}, {latest, 1, latest + 1}, {latest - 5, 4, latest - 1}, {latest - 5, 5, latest}, {latest - 5, 6, latest + 1},
		{latest + 1, 0, latest}, {latest + 1, 10, latest + 10}, {1 << 60, 10, latest + 10}, {math.MaxInt, math.MaxInt, latest + most}, {math.MaxInt, math.MinInt, latest}, {latest - most, most, latest}, {latest - most - 1, most + 1, latest - 1},
	} {
		props := []api.Prop{{Id: 38}, {Id: 2, N: x.n}, {Id: 2, N: 1}}
		if m := will.Of(api.Packet{Props: props}, "c", x.now); m.Until != x.want {
			t.Errorf("Of at %d, with %d: until %d, want %d", x.now, x.n, m.Until, x.want)
		}
		if m := will.Msg(api.Last{Props: props}, "c", x.now); m.Until != x.want {
			t.Errorf("Msg at %d, with %d: until %d, want %d", x.now, x.n, m.Until, x.want)
		}
	}
	for _, now := range []int{0, 5, -1, math.MaxInt} {
		if m := will.Of(api.Packet{Props: []api.Prop{{Id: 24, N: 3}}}, "c", now); m.Until != 0 {
			t.Errorf("Of at %d: until %d", now, m.Until)
		}
		if m := will.Msg(api.Last{Props: []api.Prop{{Id: 24, N: 3}}}, "c", now); m.Until != 0 {
			t.Errorf("Msg at %d: until %d", now, m.Until)
		}
	}
}

// delayed is a will with a delay.
func delayed(n int) api.Last {
	return api.Last{Has: true, Props: []api.Prop{{Id: 2, N: 1}, {Id: 24, N: n}, {Id: 24, N: 1}}}
}

// Wi2: for how long a will waits.
func TestDelay(t *testing.T) {
	for _, n := range []int{0, 1, 9, 1<<32 - 1} {
		if d := will.Delay(delayed(n)); d != n {
			t.Errorf("Delay = %d, want %d", d, n)
		}
	}
	for _, l := range []api.Last{{}, {Has: true, Props: []api.Prop{{Id: 2, N: 5}}}} {
		if d := will.Delay(l); d != 0 {
			t.Errorf("Delay of %v = %d", l, d)
		}
	}
}

// Wi2: when a will is sent; the chapter's example has a delay of 9, and an expiry of 5.
func TestAt(t *testing.T) {
	const most, latest = 1<<32 - 1, 1 << 40
	for _, x := range []struct{ delay, expiry, now, want int }{
		{9, 5, 0, 5}, {9, 5, 100, 105}, {5, 9, 100, 105}, {0, 9, 100, 100}, {9, 0, 100, 100}, {9, 9, 100, 109}, {9, 10, 100, 109},
		{9, -1, 100, 100}, {-1, 9, 100, 100}, {math.MinInt, math.MinInt, 100, 100}, {most, most, 100, 100 + most}, {most + 1, most + 1, 100, 100 + most}, {math.MaxInt, math.MaxInt, 100, 100 + most},
		{most, most - 1, 100, 99 + most}, {9, 9, -1, 9}, {9, 9, math.MinInt, 9}, {0, 0, -1, 0}, {9, 9, latest, latest + 9}, {9, 9, latest - 9, latest}, {9, 9, latest - 10, latest - 1}, {9, 9, latest - 8, latest + 1},
		{0, 0, latest + 1, latest}, {6, 100, 1 << 60, latest + 6}, {6, 100, latest - 1, latest + 5}, {9, -9, latest + 1, latest}, {math.MaxInt, math.MaxInt, math.MaxInt, latest + most},
	} {
		if at := will.At(delayed(x.delay), x.expiry, x.now); at != x.want {
			t.Errorf("At(%d, %d, %d) = %d, want %d", x.delay, x.expiry, x.now, at, x.want)
		}
	}
	if at := will.At(api.Last{}, 9, 100); at != 100 {
		t.Errorf("At without a delay = %d", at)
	}
}

// Wi2: a will is kept unless the reason is 0.
func TestKept(t *testing.T) {
	for _, reason := range []int{api.WithWill, 1, 0x80, 0x8e, 255, 256, -1, math.MinInt, math.MaxInt} {
		if !will.Kept(reason) {
			t.Errorf("Kept(%d) = false", reason)
		}
	}
	if will.Kept(0) {
		t.Error("Kept(0) = true")
	}
}

// R3: lists are neither handed on nor changed.
func TestListsAreNew(t *testing.T) {
	props := append(make([]api.Prop, 0, 9), api.Prop{Id: 3, S: "x"}, api.Prop{Id: 38, S: "y"})
	for _, m := range []api.Msg{will.Of(api.Packet{Props: props}, "c", 1), will.Msg(api.Last{Props: props}, "c", 1)} {
		m.Props[0].S = "z"
		_ = append(m.Props, api.Prop{Id: 9})
	}
	if props[0].S != "x" || props[:3][2] != (api.Prop{}) {
		t.Errorf("the properties became %v", props[:3])
	}
}

// Wi3: a will is sent neither before the end of its connection, nor after that of its session; a message waits as long as it says.
func TestTimes(t *testing.T) {
	rnd := rand.New(rand.NewSource(29))
	for range 5000 {
		now, delay, expiry := rnd.Intn(1<<40+1), rnd.Intn(1<<rnd.Intn(33)), rnd.Intn(1<<rnd.Intn(33))
		at := will.At(delayed(delay), expiry, now)
		if end := now + expiry; at < now || at > end || at != end && at != now+delay {
			t.Fatalf("a delay of %d, an expiry of %d: sent at %d, ended at %d", delay, expiry, at, now)
		}
		m := will.Of(api.Packet{Props: []api.Prop{{Id: 2, N: delay}}}, "c", now)
		if m.Until != now+delay {
			t.Fatalf("at %d, to wait for %d: until %d", now, delay, m.Until)
		}
	}
}
