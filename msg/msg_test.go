package msg_test

import (
	"fmt"
	"math"
	"testing"

	"towncrier/api"
	"towncrier/msg"
)

// some is a message with properties, of which there is room for more behind their list.
func some() api.Msg {
	props := append(make([]api.Prop, 0, 8), api.Prop{Id: 1, N: 2}, api.Prop{Id: 38, S: "k", V: "v"})
	return api.Msg{Topic: "t", Payload: "p", Qos: 2, Retain: true, Props: props, From: "f", Until: 7, Seq: 9, Group: "g/t"}
}

// A copy is the same, and neither changes when the other does.
func TestCopy(t *testing.T) {
	m := some()
	c := msg.Copy(m)
	want := fmt.Sprint(m)
	if fmt.Sprint(c) != want {
		t.Errorf("Copy = %v, want %v", c, want)
	}
	m.Props[0].N = 5
	_ = append(m.Props, api.Prop{Id: 3})
	if _ = append(c.Props, api.Prop{Id: 4}); fmt.Sprint(c) != want {
		t.Errorf("the copy became %v", c)
	}
	c.Props[1].S = "x"
	if m.Props[1].S != "k" || m.Props[:3][2].Id != 3 {
		t.Errorf("the message became %v", m)
	}
	if c := msg.Copy(api.Msg{}); len(c.Props) != 0 {
		t.Errorf("Copy without properties = %v", c)
	}
}

// Copies are copies one by one.
func TestCopies(t *testing.T) {
	l := []api.Msg{some(), {}, some()}
	c := msg.Copies(l)
	want := fmt.Sprint(l)
	if fmt.Sprint(c) != want || len(msg.Copies(nil)) != 0 {
		t.Errorf("Copies = %v, want %v", c, want)
	}
	l[0].Props[0].N, l[2] = 5, api.Msg{}
	if fmt.Sprint(c) != want {
		t.Errorf("the copies became %v", c)
	}
}

// A message has expired if its time is positive, and not greater than now.
func TestExpired(t *testing.T) {
	for _, x := range []struct {
		until, now int
		want       bool
	}{
		{0, 0, false}, {0, 5, false}, {0, math.MaxInt, false}, {-1, 5, false}, {-5, -1, false}, {math.MinInt, math.MaxInt, false},
		{5, 4, false}, {5, 5, true}, {5, 6, true}, {1, 0, false}, {1, 1, true}, {1, -1, false}, {5, math.MinInt, false}, {math.MaxInt, math.MaxInt - 1, false}, {math.MaxInt, math.MaxInt, true},
	} {
		if is := msg.Expired(api.Msg{Until: x.until}, x.now); is != x.want {
			t.Errorf("until %d, at %d: %v", x.until, x.now, is)
		}
	}
}
