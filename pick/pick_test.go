package pick_test

import (
	"fmt"
	"hash/fnv"
	"math"
	"math/rand"
	"slices"
	"strings"
	"testing"

	"towncrier/pick"
)

// Pi1: the number of a string, of which the chapter's example is that of the empty one.
func TestMix(t *testing.T) {
	for s, want := range map[string]int{"": 2166136261, "a": 0xe40c292c, "foobar": 0xbf9cf968} {
		if n := pick.Mix(s); n != want {
			t.Errorf("Mix(%q) = %d, want %d", s, n, want)
		}
	}
	rnd := rand.New(rand.NewSource(32))
	for range 1000 {
		b := make([]byte, rnd.Intn(40))
		rnd.Read(b)
		h := fnv.New32a()
		h.Write(b)
		if n := pick.Mix(string(b)); n != int(h.Sum32()) {
			t.Errorf("Mix(%q) = %d, want %d", b, n, h.Sum32())
		}
	}
}

// Pi1: the rank is the number of the key, a byte 0, and the client.
func TestRank(t *testing.T) {
	for _, x := range [][2]string{{"", ""}, {"a", ""}, {"", "a"}, {"a/b", "me"}, {"a\x00b", "c"}, {"\xff", "é"}} {
		if n, want := pick.Rank(x[0], x[1]), pick.Mix(x[0]+string([]byte{0})+x[1]); n != want {
			t.Errorf("Rank(%q) = %d, want %d", x, n, want)
		}
	}
}

// Pi1: who gets a key has the greatest rank.
func TestHash(t *testing.T) {
	if who := pick.Hash(nil, "a"); who != "" {
		t.Errorf("Hash of nobody = %q", who)
	}
	if who := pick.Hash([]string{""}, "a"); who != "" {
		t.Errorf("Hash of one without a name = %q", who)
	}
	here := []string{"a", "b", "c", "d", "b"}
	// Of two that rank the same, the first one gets it.
	if x, y := "khkghg", "suhavk"; pick.Rank("key", x) != pick.Rank("key", y) || pick.Hash([]string{x, y}, "key") != x || pick.Hash([]string{y, x}, "key") != y {
		t.Errorf("Hash of those that rank the same = %q, %q", pick.Hash([]string{x, y}, "key"), pick.Hash([]string{y, x}, "key"))
	}
	got := map[string]int{}
	for i := range 400 {
		key := fmt.Sprint("key", i)
		best := slices.MaxFunc(here, func(x, y string) int { return pick.Rank(key, x) - pick.Rank(key, y) })
		who := pick.Hash(here, key)
		if who != best {
			t.Errorf("Hash of %q = %q, want %q", key, who, best)
		}
		got[who]++
	}
	if len(got) != 4 {
		t.Errorf("400 keys went to %v", got)
	}
}

// Pi1: it goes on behind the last one, around to it.
func TestRobin(t *testing.T) {
	for _, x := range []struct{ all, free, last, want string }{
		{"a b c", "a b c", "a", "b"}, {"a b c", "a b c", "b", "c"}, {"a b c", "a b c", "c", "a"}, {"a b c", "a b c", "x", "a"}, {"a b c", "a b c", "", "a"},
		{"a b c", "c b a", "a", "b"}, {"a b c", "a c", "a", "c"}, {"a b c", "a", "a", "a"}, {"a b c", "a b", "b", "a"}, {"a b c", "b", "c", "b"}, {"a b c", "d", "a", ""}, {"a b c", "", "a", ""},
		{"", "a", "a", ""}, {"", "", "", ""}, {"a b a c", "a b c", "a", "b"}, {"a b a c", "a c", "a", "a"}, {"a b a c", "c", "c", "c"}, {"a b", "b b", "b", "b"},
	} {
		if who := pick.Robin(strings.Fields(x.all), strings.Fields(x.free), x.last); who != x.want {
			t.Errorf("Robin(%s; %s; %q) = %q, want %q", x.all, x.free, x.last, who, x.want)
		}
	}
	if who := pick.Robin([]string{"a", ""}, []string{"", "a"}, ""); who != "a" {
		t.Errorf("Robin behind one without a name = %q", who)
	}
}

// Pi1: the first one with the least number.
func TestLeast(t *testing.T) {
	for _, x := range []struct {
		free   string
		counts []int
		want   string
	}{
		{"", nil, ""}, {"", []int{1}, ""}, {"a", nil, "a"}, {"a", []int{7}, "a"}, {"a b c", []int{2, 1, 3}, "b"}, {"a b c", []int{2, 1, 1}, "b"}, {"a b c", []int{1, 1}, "c"}, {"a b c", []int{0, 1}, "a"},
		{"a b c", []int{1, 0, 0, -9}, "b"}, {"a b", []int{math.MaxInt, math.MaxInt}, "a"}, {"a b c", []int{math.MaxInt, math.MinInt}, "b"}, {"a b c", []int{1}, "b"}, {"a b", []int{-1}, "a"},
	} {
		if who := pick.Least(strings.Fields(x.free), x.counts); who != x.want {
			t.Errorf("Least(%s; %v) = %q, want %q", x.free, x.counts, who, x.want)
		}
	}
}

// Pi2: a key goes to another client only if its own is gone, or a new one ranks greater; everyone that is free has a turn.
func TestTurns(t *testing.T) {
	rnd := rand.New(rand.NewSource(32))
	for i := range 500 {
		key := fmt.Sprint(i)
		var here []string
		for range 1 + rnd.Intn(6) {
			here = append(here, fmt.Sprint("c", rnd.Intn(20)))
		}
		who := pick.Hash(here, key)
		gone := rnd.Intn(len(here))
		less := slices.DeleteFunc(slices.Clone(here), func(x string) bool { return x == here[gone] })
		if here[gone] != who && pick.Hash(less, key) != who {
			t.Errorf("%q of %q went to %q without %q", key, here, pick.Hash(less, key), here[gone])
		}
		if next := pick.Hash(append(here, "new"), key); next != who && (next != "new" || pick.Rank(key, "new") <= pick.Rank(key, who)) {
			t.Errorf("%q of %q went to %q with a new one", key, here, next)
		}
	}
	last, all, free := "", []string{"a", "b", "c", "d", "e"}, []string{"e", "b", "c"}
	for round := range 4 {
		turns := map[string]int{}
		for range free {
			last = pick.Robin(all, free, last)
			turns[last]++
		}
		if len(turns) != len(free) {
			t.Errorf("in round %d: %v", round, turns)
		}
	}
}
