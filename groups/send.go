package groups

import "towncrier/api"

// Next is the next message of a group, and to which of those who are free it goes.
func (g *Groups) Next(free []string) (api.Msg, string, bool) {
	for _, key := range g.Keys() {
		if m, client, ok := g.groups[key].Next(free); ok {
			return m, client, true
		}
	}
	return api.Msg{}, "", false
}

// Again tells whether a message may have been sent already.
func (g *Groups) Again(m api.Msg) bool {
	return g.of(m.Group).marks[m.Seq].again
}

// Sent is that a message of a group went to a client; whether it may.
func (g *Groups) Sent(m api.Msg, client string) bool {
	h := g.of(m.Group)
	if !h.Sent(m.Seq, client) {
		return false
	}
	h.again(m.Seq)
	return true
}

// Done is that it came there; whether it was there.
func (g *Groups) Done(m api.Msg, client string) bool {
	h := g.of(m.Group)
	if !h.Done(m.Seq, client) {
		return false
	}
	if h.ends(m.Seq) {
		g.forget(api.OpDone, m.Group, m.Seq)
	}
	return true
}

// Back is that it was refused there; whether it was there.
func (g *Groups) Back(m api.Msg, client string) bool {
	return g.of(m.Group).Back(m.Seq, client)
}

// Expire throws those that wait away whose time has come; how many.
func (g *Groups) Expire(now int) int {
	many := 0
	for _, key := range g.Keys() {
		h := g.groups[key]
		gone := h.Expire(now)
		g.tidy(key)
		many += len(gone)
		for _, seq := range gone {
			if h.ends(seq) {
				g.forget(api.OpGone, key, seq)
			}
		}
	}
	return many
}
