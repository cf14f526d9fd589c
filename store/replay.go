package store

import "towncrier/api"

// nobody is the group of which a record tells only the greatest number; no group has such a key.
const nobody = "/"

// key is what a message is found by.
type key struct {
	group string
	seq   int
}

// Replay are the messages that are in queues behind records, in the order in which they came there, and the greatest number.
func Replay(l []string) ([]api.Msg, int) {
	var all []api.Msg
	present := map[key]int{} // their places
	last := 0
	for _, s := range l {
		o, err := Take(s)
		if err != nil {
			continue
		}
		last = max(last, o.Seq)
		k := key{o.Group, o.Seq}
		_, is := present[k]
		switch {
		case o.Kind != api.OpAdd:
			delete(present, k)
		case !is:
			present[k] = len(all)
			all = append(all, o.Msg)
		}
	}
	var left []api.Msg
	for i, m := range all {
		if at, is := present[key{m.Group, m.Seq}]; is && at == i {
			left = append(left, m)
		}
	}
	return left, last
}

// Rewrite are the records that come to just these messages, and this number.
func Rewrite(l []api.Msg, last int) []string {
	var records []string
	if s, err := Put(api.Op{Kind: api.OpGone, Group: nobody, Seq: last}); err == nil {
		records = append(records, s)
	}
	for _, m := range l {
		if s, err := Put(api.Op{Kind: api.OpAdd, Group: m.Group, Seq: m.Seq, Msg: m}); err == nil {
			records = append(records, s)
		}
	}
	return records
}
