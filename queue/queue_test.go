package queue_test

import (
	"fmt"
	"math"
	"math/rand"
	"testing"

	"towncrier/api"
	"towncrier/queue"
)

// same tells whether two values are the same; nil and the empty list are.
func same[T any](a, b T) bool {
	return fmt.Sprintf("%+v", a) == fmt.Sprintf("%+v", b)
}

// until is a message that is to be thrown away at a time.
func until(n int, payload string) api.Msg {
	return api.Msg{Topic: "t", Payload: payload, Until: n}
}

// of is a queue that has these, and room for so many.
func of(t *testing.T, most int, l ...api.Msg) *queue.Queue {
	t.Helper()
	q := queue.New(most)
	for _, m := range l {
		push(t, q, m, true)
	}
	has(t, q, l...)
	return q
}

// push fails the test unless a message is pushed, or refused, as it is told.
func push(t *testing.T, q *queue.Queue, m api.Msg, want bool) {
	t.Helper()
	if ok := q.Push(m); ok != want {
		t.Errorf("Push(%+v) = %v", m, ok)
	}
}

// has fails the test unless just these wait, in this order.
func has(t *testing.T, q *queue.Queue, l ...api.Msg) {
	t.Helper()
	if all := q.All(); !same(all, l) || q.Len() != len(l) {
		t.Errorf("All() = %+v, Len() = %d; want %+v", all, q.Len(), l)
	}
}

// first fails the test unless this message is the first at a time, or there is none; both calls are asked.
func first(t *testing.T, q *queue.Queue, now int, want api.Msg, is bool) {
	t.Helper()
	for range 2 {
		if m, ok := q.First(now); !same(m, want) || ok != is {
			t.Errorf("First(%d) = %+v, %v; want %+v, %v", now, m, ok, want, is)
		}
	}
}

// pop fails the test unless this message is popped at a time, or there is none.
func pop(t *testing.T, q *queue.Queue, now int, want api.Msg, is bool) {
	t.Helper()
	if m, ok := q.Pop(now); !same(m, want) || ok != is {
		t.Errorf("Pop(%d) = %+v, %v; want %+v, %v", now, m, ok, want, is)
	}
}

// none is no message.
var none api.Msg

// Qu1: messages wait in their order.
func TestOrder(t *testing.T) {
	a, b, c := until(0, "a"), api.Msg{Topic: "b", Payload: "p", Qos: 2, Retain: true, Props: []api.Prop{{Id: 3, S: "x"}}, From: "f", Until: 9, Seq: 4, Group: "g"}, none
	q := of(t, 9)
	first(t, q, 0, none, false)
	pop(t, q, 0, none, false)
	q = of(t, 9, a, b, c, a)
	first(t, q, 0, a, true)
	has(t, q, a, b, c, a)
	pop(t, q, 0, a, true)
	has(t, q, b, c, a)
	first(t, q, 8, b, true)
	pop(t, q, 8, b, true)
	push(t, q, b, true)
	pop(t, q, 8, c, true)
	pop(t, q, 8, a, true)
	has(t, q, b)
	pop(t, q, 8, b, true)
	pop(t, q, 8, none, false)
	has(t, q)
}

// Qu1: no more than there is room for.
func TestRoom(t *testing.T) {
	a, b, c := until(0, "a"), until(0, "b"), until(0, "c")
	q := of(t, 2, a, b)
	push(t, q, c, false)
	has(t, q, a, b)
	pop(t, q, 0, a, true)
	push(t, q, c, true)
	push(t, q, a, false)
	has(t, q, b, c)
	q = of(t, 1, until(5, "x"))
	push(t, q, a, false)
	first(t, q, 5, none, false)
	push(t, q, a, true)
	has(t, q, a)
	for range 1000 {
		pop(t, q, 0, a, true)
		push(t, q, a, true)
	}
	has(t, of(t, math.MaxInt, a), a)
}

// Qu1: messages at the beginning that have expired are discarded; those behind another one stay; the chapter's example has 5.
func TestFirst(t *testing.T) {
	q := of(t, 9, until(5, "a"))
	first(t, q, 4, until(5, "a"), true)
	first(t, q, 5, none, false)
	has(t, q)
	l := []api.Msg{until(5, "a"), until(3, "b"), until(7, "c"), until(4, "d"), until(0, "e"), until(-1, "f"), until(1, "g")}
	q = of(t, 9, l...)
	first(t, q, math.MinInt, l[0], true)
	first(t, q, 4, l[0], true)
	has(t, q, l...)
	first(t, q, 5, l[2], true)
	has(t, q, l[2:]...)
	pop(t, q, 6, l[2], true)
	has(t, q, l[3:]...)
	pop(t, q, 4, l[4], true)
	has(t, q, l[5:]...)
	first(t, q, math.MaxInt, l[5], true)
	pop(t, q, math.MaxInt, l[5], true)
	pop(t, q, 1, none, false)
	has(t, q)
}

// Qu1: Expire removes those that have expired, wherever they are.
func TestExpire(t *testing.T) {
	l := []api.Msg{until(7, "a"), until(0, "b"), until(5, "c"), until(5, "d"), until(-4, "e"), until(1, "f"), until(math.MaxInt, "g")}
	q := of(t, 9, l...)
	for _, step := range []struct {
		now, gone int
		left      []int
	}{
		{math.MinInt, 0, []int{0, 1, 2, 3, 4, 5, 6}}, {0, 0, []int{0, 1, 2, 3, 4, 5, 6}}, {1, 1, []int{0, 1, 2, 3, 4, 6}}, {4, 0, []int{0, 1, 2, 3, 4, 6}},
		{5, 2, []int{0, 1, 4, 6}}, {5, 0, []int{0, 1, 4, 6}}, {9, 1, []int{1, 4, 6}}, {math.MaxInt, 1, []int{1, 4}}, {math.MaxInt, 0, []int{1, 4}},
	} {
		if n := q.Expire(step.now); n != step.gone {
			t.Errorf("Expire(%d) = %d, want %d", step.now, n, step.gone)
		}
		var left []api.Msg
		for _, i := range step.left {
			left = append(left, l[i])
		}
		has(t, q, left...)
	}
	push(t, q, l[0], true)
	has(t, q, l[1], l[4], l[0])
}

// Qu1: without room, a zero queue, and none at all.
func TestNothing(t *testing.T) {
	for _, q := range []*queue.Queue{queue.New(0), queue.New(-1), queue.New(math.MinInt), {}, nil} {
		push(t, q, none, false)
		push(t, q, until(0, "a"), false)
		first(t, q, 0, none, false)
		pop(t, q, 0, none, false)
		if n := q.Expire(math.MaxInt); n != 0 {
			t.Errorf("Expire = %d", n)
		}
		has(t, q)
	}
}

// left fails the test unless a message has so much time left, -1 for none of its own, and -2 if it has expired.
func left(t *testing.T, n, now, want int) {
	t.Helper()
	m := api.Msg{Topic: "a", Payload: "p", Qos: 2, Retain: true, From: "f", Until: n, Seq: 4, Group: "g", Props: []api.Prop{{Id: 2, N: 77}, {Id: 38, S: "k", V: "v"}, {Id: 2}, {Id: 3, S: "x"}}}
	w := m
	switch {
	case want == -2:
		w = none
	case want >= 0:
		w.Props = []api.Prop{{Id: 38, S: "k", V: "v"}, {Id: 3, S: "x"}, {Id: 2, N: want}}
	}
	if got, ok := queue.Left(m, now); !same(got, w) || ok != (want > -2) {
		t.Errorf("Left of until %d at %d = %+v, %v; want %+v", n, now, got, ok, w)
	}
	m.Props = nil
	if want >= 0 {
		w.Props = []api.Prop{{Id: 2, N: want}}
	} else {
		w.Props = nil
	}
	if got, ok := queue.Left(m, now); !same(got, w) || ok != (want > -2) {
		t.Errorf("Left without properties of until %d at %d = %+v, %v; want %+v", n, now, got, ok, w)
	}
}

// Qu2: how long a message may wait yet is its last property.
func TestLeft(t *testing.T) {
	left(t, 1, 0, 1)
	left(t, 1, 1, -2)
	left(t, 5, 0, 5)
	left(t, 5, 4, 1)
	left(t, 5, 5, -2)
	left(t, 5, 6, -2)
	left(t, 5, math.MaxInt, -2)
	left(t, 5, -1, 5)
	left(t, 5, math.MinInt, 5)
	left(t, 0, 0, -1)
	left(t, 0, 9, -1)
	left(t, 0, math.MaxInt, -1)
	left(t, -1, 9, -1)
	left(t, math.MinInt, -9, -1)
	left(t, 1<<32-1, 0, 1<<32-1)
	left(t, 1<<32, 0, 1<<32-1)
	left(t, 1<<32+5, 6, 1<<32-1)
	left(t, 1<<32+5, 7, 1<<32-2)
	left(t, 1<<40, -5, 1<<32-1)
	left(t, math.MaxInt, 0, 1<<32-1)
	left(t, math.MaxInt, math.MinInt, 1<<32-1)
	left(t, math.MaxInt, math.MaxInt-3, 3)
	left(t, math.MaxInt, math.MaxInt, -2)
}

// R3: lists are neither kept, nor handed out, nor changed.
func TestListsAreNew(t *testing.T) {
	fresh := func() api.Msg {
		return api.Msg{Topic: "a", Until: 9, Props: append(make([]api.Prop, 0, 9), api.Prop{Id: 3, S: "x"})}
	}
	m := fresh()
	q := of(t, 9, m, m)
	m.Props[0].S = "y"
	has(t, q, fresh(), fresh())
	q.All()[0].Props[0].S = "y"
	f, _ := q.First(0)
	f.Props[0].S = "y"
	has(t, q, fresh(), fresh())
	m = fresh()
	for _, n := range []int{9, 0} {
		m.Until = n
		l, _ := queue.Left(m, 0)
		l.Props[0].S = "y"
		if m.Props[0].S != "x" || m.Props[:9][1] != (api.Prop{}) {
			t.Errorf("the message became %+v", m.Props[:9])
		}
	}
}

// Qu3: what is pushed is popped in its order, each once, unless it has expired.
func TestAgainstList(t *testing.T) {
	rnd := rand.New(rand.NewSource(27))
	for range 300 {
		most := rnd.Intn(8)
		q := queue.New(most)
		var l []api.Msg
		dead := func(m api.Msg, now int) bool { return m.Until > 0 && m.Until <= now }
		for i := range 80 {
			now := rnd.Intn(i + 1)
			switch rnd.Intn(6) {
			case 0:
				var alive []api.Msg
				for _, m := range l {
					if !dead(m, now) {
						alive = append(alive, m)
					}
				}
				if n := q.Expire(now); n != len(l)-len(alive) {
					t.Fatalf("Expire(%d) = %d, want %d", now, n, len(l)-len(alive))
				}
				l = alive
			case 1, 2:
				for len(l) > 0 && dead(l[0], now) {
					l = l[1:]
				}
				want, is := none, len(l) > 0
				if is {
					want = l[0]
				}
				if rnd.Intn(2) > 0 {
					first(t, q, now, want, is)
					break
				}
				pop(t, q, now, want, is)
				if is {
					l = l[1:]
				}
			default:
				m := until(max(0, rnd.Intn(160)-40), fmt.Sprint(i))
				push(t, q, m, len(l) < most)
				if len(l) < most {
					l = append(l, m)
				}
			}
			has(t, q, l...)
			if t.Failed() {
				return
			}
		}
	}
}
