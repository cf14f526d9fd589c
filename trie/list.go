package trie

import (
	"cmp"
	"slices"

	"towncrier/api"
)

// list are subscriptions that were found.
type list struct {
	entries []api.Entry
}

// take adds those that end at a node.
func (l *list) take(n *node) {
	for _, e := range n.ends {
		l.entries = append(l.entries, e)
	}
}

// sorted are all, in their order.
func (l *list) sorted() []api.Entry {
	slices.SortFunc(l.entries, func(a, b api.Entry) int {
		return cmp.Or(cmp.Compare(a.Who, b.Who), cmp.Compare(a.Filter, b.Filter))
	})
	return l.entries
}
