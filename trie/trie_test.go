package trie_test

import (
	"math/rand"
	"slices"
	"strings"
	"testing"

	"towncrier/api"
	"towncrier/topic"
	"towncrier/trie"
)

// entries are subscriptions, each of them written as who:filter.
func entries(l ...string) []api.Entry {
	var out []api.Entry
	for _, s := range l {
		who, filter, _ := strings.Cut(s, ":")
		out = append(out, api.Entry{Who: who, Filter: filter})
	}
	return out
}

// with is a trie that has these.
func with(t *testing.T, l ...string) *trie.Trie {
	t.Helper()
	x := trie.New()
	for _, e := range entries(l...) {
		if !x.Add(e.Filter, e.Who) {
			t.Errorf("Add(%q, %q) = false", e.Filter, e.Who)
		}
	}
	return x
}

// has fails the test unless the trie has just these, and so many nodes.
func has(t *testing.T, x *trie.Trie, nodes int, l ...string) {
	t.Helper()
	if all := x.All(); !slices.Equal(all, entries(l...)) {
		t.Errorf("All() = %v, want %v", all, l)
	}
	if n := x.Nodes(); n != nodes {
		t.Errorf("Nodes() = %d, want %d", n, nodes)
	}
}

// takes fails the test unless these take the topic.
func takes(t *testing.T, x *trie.Trie, name string, l ...string) {
	t.Helper()
	if got := x.Match(name); !slices.Equal(got, entries(l...)) {
		t.Errorf("Match(%q) = %v, want %v", name, got, l)
	}
}

// Tr1: a trie without subscriptions, none at all, and a zero one, to which none is added.
func TestEmpty(t *testing.T) {
	has(t, trie.New(), 0)
	takes(t, trie.New(), "a")
	for _, x := range []*trie.Trie{nil, {}} {
		if x.Add("a", "w") || x.Drop("a", "w") {
			t.Error("Add, or Drop, = true")
		}
		has(t, x, 0)
		takes(t, x, "a")
	}
}

// Tr1: nodes are the prefixes of filters, each counted once; the chapter's example is a/+ and a/#.
func TestNodes(t *testing.T) {
	has(t, with(t, "w:a/+", "w:a/#"), 3, "w:a/#", "w:a/+")
	has(t, with(t, "w:a"), 1, "w:a")
	has(t, with(t, "w:#"), 1, "w:#")
	has(t, with(t, "w:a/b/c"), 3, "w:a/b/c")
	has(t, with(t, "w:a/b/c", "v:a/b/c", "v:a/b"), 3, "v:a/b", "v:a/b/c", "w:a/b/c")
	has(t, with(t, "w:/"), 2, "w:/")
	has(t, with(t, "w:/", "w://", "w:/a", "w:a/"), 6, "w:/", "w://", "w:/a", "w:a/")
	has(t, with(t, "w:b/a", "w:a/b", "w:a", "w:b"), 4, "w:a", "w:a/b", "w:b", "w:b/a")
	has(t, with(t, "w:"+strings.Repeat("/", 31)), 32, "w:"+strings.Repeat("/", 31))
}

// Tr1: filters that are not valid are not added, and were never there.
func TestAddRefuses(t *testing.T) {
	x := with(t, "w:a/b")
	for _, filter := range []string{"", "a+", "#/a", "a/b#", "\x00", "a/\xff", strings.Repeat("/", 32), strings.Repeat("a", 65536), strings.Repeat("/", 100000)} {
		if x.Add(filter, "w") || x.Drop(filter, "w") {
			t.Errorf("Add, or Drop, of %.40q = true", filter)
		}
	}
	has(t, x, 2, "w:a/b")
}

// Tr1: whatever is already there is not added again; of the same filter there may be others.
func TestAddAgain(t *testing.T) {
	x := with(t, "w:a/b", "v:a/b", ":a/b", "\xff:a/b", "w:a")
	for _, who := range []string{"w", "v", "", "\xff"} {
		if x.Add("a/b", who) {
			t.Errorf("Add of %q = true", who)
		}
	}
	has(t, x, 2, ":a/b", "v:a/b", "w:a", "w:a/b", "\xff:a/b")
	takes(t, x, "a/b", ":a/b", "v:a/b", "w:a/b", "\xff:a/b")
	if !x.Drop("a/b", "w") || x.Drop("a/b", "w") || !x.Add("a/b", "w") || x.Add("a/b", "w") {
		t.Error("dropped and added again")
	}
}

// Tr1: their order is by Who, and then by Filter, byte by byte.
func TestOrder(t *testing.T) {
	l := []string{":+", ":\u00f6", "A:z", "a:#", "a:$/#", "a:+", "a:+/b", "a:/", "a:0", "a:B", "a:a", "a:a/", "a:aa", "aa:a", "ab:#", "b:a", "\x7f:a", "\xc3:a"}
	turned := slices.Clone(l)
	slices.Reverse(turned)
	has(t, with(t, turned...), 14, l...)
	takes(t, with(t, turned...), "a", ":+", "a:#", "a:+", "a:a", "aa:a", "ab:#", "b:a", "\x7f:a", "\xc3:a")
}

// Tr1: what is dropped is not there any more; what was not there is not dropped.
func TestDrop(t *testing.T) {
	x := with(t, "w:a", "w:a/b/c", "v:a/b", "w:a/+", "w:#")
	for _, e := range entries("v:a", "w:b", "w:a/b", "w:a/b/c/d", "w:+", "v:#", "w:a/#", ":a", "w:/a") {
		if x.Drop(e.Filter, e.Who) {
			t.Errorf("Drop(%q, %q) = true", e.Filter, e.Who)
		}
	}
	has(t, x, 5, "v:a/b", "w:#", "w:a", "w:a/+", "w:a/b/c")
	for _, step := range []struct {
		filter, who string
		nodes       int
		rest        []string
	}{
		{"a/b", "v", 5, []string{"w:#", "w:a", "w:a/+", "w:a/b/c"}},
		{"a/b/c", "w", 3, []string{"w:#", "w:a", "w:a/+"}},
		{"a", "w", 3, []string{"w:#", "w:a/+"}},
		{"a/+", "w", 1, []string{"w:#"}},
		{"#", "w", 0, nil},
	} {
		if !x.Drop(step.filter, step.who) || x.Drop(step.filter, step.who) {
			t.Errorf("Drop(%q, %q)", step.filter, step.who)
		}
		has(t, x, step.nodes, step.rest...)
	}
}

// Tr1: what takes a topic.
func TestMatch(t *testing.T) {
	x := with(t, "1:#", "1:+", "1:a", "2:a/#", "2:a/+", "2:a/b", "3:+/b", "3:+/#", "3:/+", "4:$s/#", "4:$s/+", "4:$s", "5:a/+/c/#", "5:+/+/+", "5:/")
	takes(t, x, "a", "1:#", "1:+", "1:a", "2:a/#", "3:+/#")
	takes(t, x, "a/b", "1:#", "2:a/#", "2:a/+", "2:a/b", "3:+/#", "3:+/b")
	takes(t, x, "a/b/c", "1:#", "2:a/#", "3:+/#", "5:+/+/+", "5:a/+/c/#")
	takes(t, x, "a//c", "1:#", "2:a/#", "3:+/#", "5:+/+/+", "5:a/+/c/#")
	takes(t, x, "a/b/c/d", "1:#", "2:a/#", "3:+/#", "5:a/+/c/#")
	takes(t, x, "/", "1:#", "3:+/#", "3:/+", "5:/")
	takes(t, x, "/b", "1:#", "3:+/#", "3:+/b", "3:/+")
	takes(t, x, "$s", "4:$s", "4:$s/#")
	takes(t, x, "$s/b", "4:$s/#", "4:$s/+")
	takes(t, x, "$t")
	takes(t, x, "$t/b")
	takes(t, x, "b/$s", "1:#", "3:+/#")
	for _, name := range []string{"", "#", "+", "a/#", "a/+", "a+", "\x00", "a/\xff", strings.Repeat("/", 32), strings.Repeat("a", 65536)} {
		takes(t, x, name)
	}
	takes(t, x, strings.Repeat("/", 31), "1:#", "3:+/#")
}

// Tr1: the lists of a result are new memory.
func TestListsAreNew(t *testing.T) {
	x := with(t, "v:a", "w:#")
	x.All()[0].Who = "x"
	x.Match("a")[0] = api.Entry{}
	has(t, x, 2, "v:a", "w:#")
	takes(t, x, "a", "v:a", "w:#")
}

// random is a text of some levels; names have no signs.
func random(rnd *rand.Rand, levels ...string) string {
	l := make([]string, 1+rnd.Intn(4))
	for i := range l {
		l[i] = levels[rnd.Intn(len(levels))]
	}
	return strings.Join(l, "/")
}

// agree fails the test unless a trie has just these subscriptions.
func agree(t *testing.T, x *trie.Trie, rnd *rand.Rand, known map[api.Entry]bool) {
	t.Helper()
	var all []api.Entry
	nodes := map[string]bool{}
	for e := range known {
		all = append(all, e)
		levels := topic.Levels(e.Filter)
		for i := range levels {
			nodes[strings.Join(levels[:i+1], "/")+"."] = true
		}
	}
	slices.SortFunc(all, func(a, b api.Entry) int {
		return strings.Compare(a.Who+"\x00"+a.Filter, b.Who+"\x00"+b.Filter)
	})
	if got := x.All(); !slices.Equal(got, all) || x.Nodes() != len(nodes) {
		t.Fatalf("All() = %v, %d nodes; want %v, %d nodes", got, x.Nodes(), all, len(nodes))
	}
	for range 5 {
		name := random(rnd, "a", "b", "", "$")
		want := slices.DeleteFunc(slices.Clone(all), func(e api.Entry) bool { return !topic.Match(e.Filter, name) })
		if got := x.Match(name); !slices.Equal(got, want) {
			t.Fatalf("Match(%q) = %v, want %v", name, got, want)
		}
	}
}

// Tr1: whatever is added and dropped, against a list of what is there.
func TestAgainstList(t *testing.T) {
	rnd := rand.New(rand.NewSource(18))
	for range 60 {
		x := trie.New()
		known := map[api.Entry]bool{}
		for range 150 {
			e := api.Entry{Who: []string{"", "v", "w"}[rnd.Intn(3)], Filter: random(rnd, "a", "b", "", "$", "+", "#")}
			if rnd.Intn(2) > 0 {
				if want := topic.IsFilter(e.Filter) && !known[e]; x.Add(e.Filter, e.Who) != want {
					t.Fatalf("Add(%q, %q) = %v", e.Filter, e.Who, !want)
				}
				if topic.IsFilter(e.Filter) {
					known[e] = true
				}
			} else if x.Drop(e.Filter, e.Who) != known[e] {
				t.Fatalf("Drop(%q, %q) = %v", e.Filter, e.Who, !known[e])
			} else {
				delete(known, e)
			}
			agree(t, x, rnd, known)
		}
	}
}

// Tr2: what is added and dropped leaves nothing behind, and the order in which they came does not matter.
func TestAnyOrder(t *testing.T) {
	rnd := rand.New(rand.NewSource(81))
	for range 100 {
		known := map[api.Entry]bool{}
		var l []api.Entry
		x, y := trie.New(), trie.New()
		for range 30 {
			e := api.Entry{Who: []string{"v", "w"}[rnd.Intn(2)], Filter: random(rnd, "a", "b", "", "+")}
			if x.Add(e.Filter, e.Who) {
				known[e] = true
				l = append(l, e)
			}
		}
		rnd.Shuffle(len(l), func(i, j int) { l[i], l[j] = l[j], l[i] })
		for _, e := range l {
			y.Add(e.Filter, e.Who)
		}
		agree(t, x, rnd, known)
		agree(t, y, rnd, known)
		for _, e := range l {
			if !x.Drop(e.Filter, e.Who) {
				t.Fatalf("Drop(%q, %q) = false", e.Filter, e.Who)
			}
			delete(known, e)
		}
		agree(t, x, rnd, known)
		has(t, x, 0)
	}
}
