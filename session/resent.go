package session

import (
	"slices"

	"towncrier/api"
	"towncrier/outq"
)

// released is the state of a message of which a Pubrel is sent again; of the others a Publish is, with their state as QoS.
const released = 3

// resent are packets that are to be sent again.
type resent struct {
	list    []api.Packet
	changed bool // what is in transit may have changed since it was skipped last
}

// skip throws those away of which nothing is in transit any more, or in another state.
func (r *resent) skip(o *outq.Out) {
	if !r.changed || len(r.list) == 0 {
		return
	}
	states := map[int]int{}
	for _, f := range o.All() {
		states[f.Id] = f.State
	}
	r.list = slices.DeleteFunc(r.list, func(p api.Packet) bool { return states[p.Id] != state(p) })
	r.changed = false
}

// cut cuts the first one off.
func (r *resent) cut() api.Packet {
	p := r.list[0]
	r.list = r.list[1:]
	return p
}

// state is that of the message of which a packet is sent again.
func state(p api.Packet) int {
	if p.Kind == api.Pubrel {
		return released
	}
	return p.Qos
}
