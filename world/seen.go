package world

import (
	"towncrier/api"
	"towncrier/frame"
	"towncrier/packet"
)

// eyes are what sees a connection.
type eyes struct {
	in   *frame.Splitter // of the bytes that come in, until they are no packets
	seen []api.Seen
}

// Seen is what was seen of a connection, packet by packet.
func Seen(c api.Config, l []api.Trace, conn int) []api.Seen {
	x := eyes{in: frame.New(c.Packet)}
	for _, t := range l {
		if t.Conn != conn {
			continue
		}
		switch t.Kind {
		case api.TrIn:
			x.arrive(t.Bytes)
		case api.TrOut:
			x.leave(t.Bytes)
		case api.TrClose:
			x.seen = append(x.seen, api.Seen{})
		}
	}
	return x.seen
}

// arrive sees bytes that come in.
func (x *eyes) arrive(s string) {
	if x.in == nil {
		return
	}
	x.in.Feed(s)
	for {
		f, ok, err := x.in.Next()
		var p api.Packet
		if ok {
			p, err = packet.Decode(f)
		}
		if err != nil {
			x.seen = append(x.seen, api.Seen{In: true, Bad: true})
			x.in = nil
			return
		}
		if !ok {
			return
		}
		x.seen = append(x.seen, api.Seen{In: true, P: p})
	}
}

// leave sees bytes that go out.
func (x *eyes) leave(s string) {
	// What goes out at once are whole packets, so none is longer than all.
	l, _ := packet.All(s, len(s))
	for _, p := range l {
		x.seen = append(x.seen, api.Seen{P: p})
	}
}
