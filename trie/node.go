package trie

import "towncrier/api"

// The levels that stand for others: one for any, the other for all that remain.
const (
	one = "+"
	all = "#"
)

// node is what follows some levels.
type node struct {
	next map[string]*node     // by the level that follows
	ends map[string]api.Entry // the subscriptions that end here, by whose they are
}

// newNode is one that nothing follows.
func newNode() *node {
	return &node{next: map[string]*node{}, ends: map[string]api.Entry{}}
}

// isBare tells whether nothing follows a node, and nothing ends there.
func (n *node) isBare() bool {
	return len(n.next) == 0 && len(n.ends) == 0
}

// each visits a node and all behind it.
func (n *node) each(visit func(*node)) {
	visit(n)
	for _, next := range n.next {
		next.each(visit)
	}
}

// match visits the nodes at which filters end that take these levels from here on; whether a sign may be next is told.
func (n *node) match(levels []string, signs bool, visit func(*node)) {
	if n == nil {
		return
	}
	if rest := n.next[all]; signs && rest != nil {
		visit(rest)
	}
	if len(levels) == 0 {
		visit(n)
		return
	}
	if signs {
		n.next[one].match(levels[1:], true, visit)
	}
	n.next[levels[0]].match(levels[1:], true, visit)
}
