package group

import (
	"iter"
	"slices"

	"towncrier/api"
	"towncrier/lane"
	"towncrier/msg"
	"towncrier/pick"
)

// Next is the next message, and to which of those who are free it goes.
func (g *Group) Next(free []string) (api.Msg, string, bool) {
	if g == nil {
		return api.Msg{}, "", false
	}
	here := g.members.Here()
	if !slices.ContainsFunc(here, func(client string) bool { return slices.Contains(free, client) }) {
		return api.Msg{}, "", false
	}
	for i := range g.candidates() {
		if client := g.choose(i, here, free); client != "" && slices.Contains(free, client) {
			return msg.Copy(g.items[i].Msg), client, true
		}
	}
	return api.Msg{}, "", false
}

// candidates visits the places of those that wait, but for those that can't be sent ahead of others.
func (g *Group) candidates() iter.Seq[int] {
	if g.strategy == api.Hash {
		return slices.Values(lane.Head(g.items))
	}
	return func(visit func(int) bool) {
		for i := range g.items {
			if g.waits(i) && (!visit(i) || g.strategy == api.Exclusive) {
				return
			}
		}
	}
}

// choose is to whom the message at a place goes, of those who are here, if it goes to one that is free.
func (g *Group) choose(i int, here, free []string) string {
	x := g.items[i]
	switch g.strategy {
	case api.Sticky:
		return pick.Hash(allowed(x, here), x.Msg.From)
	case api.Hash:
		return g.hash(i, here)
	case api.Least:
		l := both(allowed(x, here), free)
		return pick.Least(l, g.counts(l))
	case api.Exclusive:
		return g.members.Owner()
	}
	return pick.Robin(clients(g.members.All()), both(allowed(x, here), free), g.last)
}

// hash is the client to which the lane of the message at a place goes.
func (g *Group) hash(i int, here []string) string {
	x := g.items[i]
	key := lane.Key(x.Msg)
	client, is := lane.Owner(g.items, key)
	if !is {
		client = pick.Hash(allowed(x, here), key)
	}
	if !lane.May(g.items, i, client) {
		return ""
	}
	return client
}

// counts are how many messages are under way to each of some clients.
func (g *Group) counts(l []string) []int {
	n := make([]int, len(l))
	for i := range g.items {
		if k := slices.Index(l, g.items[i].At); k >= 0 && !g.waits(i) {
			n[k]++
		}
	}
	return n
}

// allowed are those of the clients who are here that may get a message: those that did not refuse it, or all, if all did.
func allowed(x api.Item, here []string) []string {
	l := slices.DeleteFunc(slices.Clone(here), func(client string) bool { return slices.Contains(x.Behind, client) })
	if len(l) == 0 {
		return here
	}
	return l
}

// both are those of some clients that are among others, too.
func both(l, others []string) []string {
	return slices.DeleteFunc(slices.Clone(l), func(client string) bool { return !slices.Contains(others, client) })
}

// clients are those of members.
func clients(l []api.Member) []string {
	var names []string
	for _, m := range l {
		names = append(names, m.Client)
	}
	return names
}
