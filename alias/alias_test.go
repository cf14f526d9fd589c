package alias_test

import (
	"fmt"
	"math"
	"math/rand"
	"testing"

	"towncrier/alias"
)

// What the faults say.
const (
	missing = "against the protocol, reason 130, at 0"
	bad     = "against the protocol, reason 148, at 0"
)

// topic fails the test unless this is the topic, or the error.
func topic(t *testing.T, a *alias.In, name string, n int, want, wrong string) {
	t.Helper()
	got, err := a.Topic(name, n)
	told := ""
	if err != nil {
		told = err.Error()
	}
	if got != want || told != wrong {
		t.Errorf("Topic(%.40q, %d) = %.40q, %q; want %.40q, %q", name, n, got, told, want, wrong)
	}
}

// name fails the test unless a topic is told so.
func name(t *testing.T, a *alias.Out, topic, want string, n int) {
	t.Helper()
	if got, alias := a.Name(topic); got != want || alias != n {
		t.Errorf("Name(%.40q) = %.40q, %d; want %.40q, %d", topic, got, alias, want, n)
	}
}

// Al1: without an alias a topic is itself, and there must be one.
func TestTopicAlone(t *testing.T) {
	for _, a := range []*alias.In{alias.NewIn(3), alias.NewIn(0), {}, nil} {
		topic(t, a, "a", 0, "a", "")
		topic(t, a, "+/\xff", 0, "+/\xff", "")
		topic(t, a, "", 0, "", missing)
	}
}

// Al1: an alias has the topic with which it came last.
func TestTopicOfAlias(t *testing.T) {
	a := alias.NewIn(3)
	topic(t, a, "", 1, "", missing)
	topic(t, a, "", 3, "", missing)
	topic(t, a, "a", 3, "a", "")
	topic(t, a, "", 3, "a", "")
	topic(t, a, "", 2, "", missing)
	topic(t, a, "", 1, "", missing)
	topic(t, a, "b", 1, "b", "")
	topic(t, a, "", 3, "a", "")
	topic(t, a, "", 1, "b", "")
	topic(t, a, "c", 3, "c", "")
	topic(t, a, "", 3, "c", "")
	topic(t, a, "x", 0, "x", "")
	topic(t, a, "a", 1, "a", "")
	topic(t, a, "", 1, "a", "")
	topic(t, a, "a", 2, "a", "")
	topic(t, a, "", 3, "c", "")
}

// Al1: what is not one of the aliases, which changes nothing.
func TestTopicOutside(t *testing.T) {
	a := alias.NewIn(3)
	topic(t, a, "a", 3, "a", "")
	for _, n := range []int{-1, 4, 65535, 65536, math.MinInt, math.MaxInt} {
		topic(t, a, "b", n, "", bad)
		topic(t, a, "", n, "", bad)
	}
	topic(t, a, "", 3, "a", "")
	topic(t, a, "", 1, "", missing)
	for _, a := range []*alias.In{alias.NewIn(0), alias.NewIn(-1), alias.NewIn(math.MinInt), {}, nil} {
		for _, n := range []int{-1, 1, 2, math.MaxInt} {
			topic(t, a, "a", n, "", bad)
			topic(t, a, "", n, "", bad)
		}
	}
}

// Al1: there are at most 65535.
func TestTopicGreatest(t *testing.T) {
	for _, most := range []int{65535, 65536, math.MaxInt} {
		a := alias.NewIn(most)
		topic(t, a, "a", 65535, "a", "")
		topic(t, a, "", 65535, "a", "")
		topic(t, a, "", 65534, "", missing)
		topic(t, a, "a", 65536, "", bad)
	}
	topic(t, alias.NewIn(65534), "a", 65535, "", bad)
}

// Al2: a topic gets the least alias that is left; the chapter's example is a, twice.
func TestName(t *testing.T) {
	a := alias.NewOut(3)
	name(t, a, "a", "a", 1)
	name(t, a, "a", "", 1)
	name(t, a, "b", "b", 2)
	name(t, a, "", "", 0)
	name(t, a, "a", "", 1)
	name(t, a, "c/d", "c/d", 3)
	name(t, a, "e", "e", 0)
	name(t, a, "e", "e", 0)
	name(t, a, "", "", 0)
	name(t, a, "c/d", "", 3)
	name(t, a, "b", "", 2)
	name(t, a, "A", "A", 0)
}

// Al2: without aliases, a zero object, and none at all.
func TestNameNone(t *testing.T) {
	for _, a := range []*alias.Out{alias.NewOut(0), alias.NewOut(-1), alias.NewOut(math.MinInt), {}, nil} {
		for range 2 {
			name(t, a, "a", "a", 0)
			name(t, a, "", "", 0)
		}
	}
}

// Al2: there are at most 65535.
func TestNameGreatest(t *testing.T) {
	for _, most := range []int{65534, 65535, 65536, math.MaxInt} {
		a := alias.NewOut(most)
		all := min(most, 65535)
		for n := 1; n <= all; n++ {
			name(t, a, fmt.Sprint(n), fmt.Sprint(n), n)
		}
		name(t, a, "x", "x", 0)
		name(t, a, "1", "", 1)
		name(t, a, fmt.Sprint(all), "", all)
	}
}

// Al3: what an Out returns is the topic for an In that received all of it, if it has as many aliases.
func TestThere(t *testing.T) {
	rnd := rand.New(rand.NewSource(26))
	for range 300 {
		most := rnd.Intn(6) - 1
		out, in := alias.NewOut(most), alias.NewIn(most+rnd.Intn(2))
		for range 50 {
			want := fmt.Sprint("t/", rnd.Intn(8))
			got, n := out.Name(want)
			topic(t, in, got, n, want, "")
			if n > max(most, 0) || n < 0 {
				t.Fatalf("alias %d of %d", n, most)
			}
		}
	}
}
