package groups

import (
	"towncrier/api"
	"towncrier/store"
)

// head is how many bytes a record's frame has ahead of the record.
const head = 8

// Sync lets the journal be sure.
func (g *Groups) Sync() {
	if g != nil {
		g.log.Sync()
	}
}

// Waits tells whether some of it is not.
func (g *Groups) Waits() bool {
	return g != nil && g.log.Waits()
}

// Compact writes the journal anew; whether there was room.
func (g *Groups) Compact() bool {
	if g.none() {
		return false
	}
	var l []api.Msg
	for _, key := range g.Keys() {
		for _, x := range g.Items(key) {
			if lasts(x.Msg) {
				l = append(l, x.Msg)
			}
		}
	}
	return g.log.Rewrite(store.Rewrite(l, g.last)) == nil
}

// write appends records, all or none; if there is no room for them, the journal is written anew first.
func (g *Groups) write(records ...string) bool {
	if !g.fit(records) && !(g.Compact() && g.fit(records)) {
		return false
	}
	for _, s := range records {
		if g.log.Append(s) != nil {
			return false
		}
	}
	return true
}

// fit tells whether there is room for records.
func (g *Groups) fit(records []string) bool {
	size := 0
	for _, s := range records {
		if len(s) > api.MaxBody {
			return false
		}
		size += head + len(s)
	}
	return size <= g.disk.Room()
}

// forget records that a message of a group is in its queue no more, if there is room for that.
func (g *Groups) forget(kind int, key string, seq int) {
	if s, err := store.Put(api.Op{Kind: kind, Group: key, Seq: seq}); err == nil {
		g.write(s)
	}
}

// added are the records of messages.
func added(l []api.Msg) ([]string, error) {
	var records []string
	for _, m := range l {
		s, err := store.Put(api.Op{Kind: api.OpAdd, Group: m.Group, Seq: m.Seq, Msg: m})
		if err != nil {
			return nil, err
		}
		records = append(records, s)
	}
	return records, nil
}
