package groups

import (
	"towncrier/api"
	"towncrier/fault"
	"towncrier/msg"
)

// Publish lays a message into some groups' queues: into all, or, if it lasts, into none.
func (g *Groups) Publish(m api.Msg, keys []string, now int) error {
	if !g.mayNumber(keys) {
		return fault.New(api.Unspecified, 0, api.ErrArgument)
	}
	if len(keys) == 0 {
		return nil
	}
	copies := g.copies(m, keys, now)
	if lasts(m) {
		if err := g.record(copies); err != nil {
			return err
		}
	}
	for _, c := range copies {
		g.groups[c.Group].lay(c)
	}
	g.last += len(copies)
	return nil
}

// mayNumber tells whether keys are those of groups, each once, and there are numbers for them.
func (g *Groups) mayNumber(keys []string) bool {
	seen := map[string]int{}
	for _, key := range keys {
		if seen[key]++; seen[key] > 1 || g.of(key).Group == nil {
			return false
		}
	}
	return g.Last() <= api.MaxSeq-len(keys)
}

// copies are what a message is for each group.
func (g *Groups) copies(m api.Msg, keys []string, now int) []api.Msg {
	if g.wait > 0 {
		now = min(max(now, 0), api.MaxTicks)
		end := now + min(g.wait, api.MaxInt-now)
		if m.Until <= 0 || m.Until > end {
			m.Until = end
		}
	}
	var l []api.Msg
	for i, key := range keys {
		c := msg.Copy(m)
		c.Group, c.Seq = key, g.last+i+1
		l = append(l, c)
	}
	return l
}

// record records lasting messages, all or none of them.
func (g *Groups) record(l []api.Msg) error {
	for _, m := range l {
		if g.groups[m.Group].Room() == 0 {
			return noRoom()
		}
	}
	records, err := added(l)
	if err != nil {
		return err
	}
	if !g.write(records...) {
		return noRoom()
	}
	return nil
}

// noRoom is the fault of a message for which there is no room.
func noRoom() error {
	return fault.New(api.QuotaReached, 0, api.ErrQuota)
}
