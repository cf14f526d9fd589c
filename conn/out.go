package conn

import (
	"slices"

	"towncrier/api"
	"towncrier/packet"
)

// answer is a packet that is owed, and whether it may go out.
type answer struct {
	packet api.Packet
	ready  bool
}

// Send lets a packet go out; whether it does.
func (c *Conn) Send(p api.Packet) bool {
	if c.Closed() || !packet.Fits(p, c.terms.Packet) {
		return false
	}
	bytes, err := packet.Encode(c.shorter(p))
	if err != nil {
		return false
	}
	c.out.WriteString(bytes)
	return true
}

// shorter is a packet as it goes out: a Publish with an alias, if it may have one.
func (c *Conn) shorter(p api.Packet) api.Packet {
	if p.Kind != api.Publish || p.Topic == "" || c.terms.Aliases <= 0 || !packet.Fits(named(p, 1), c.terms.Packet) {
		return p
	}
	topic, n := c.tells.Name(p.Topic)
	if n == 0 {
		return p
	}
	p.Topic = topic
	return named(p, n)
}

// named is a packet with an alias behind its other properties.
func named(p api.Packet, n int) api.Packet {
	p.Props = append(slices.Clone(p.Props), api.Prop{Id: aliased, N: n})
	return p
}

// Answer owes a packet, which goes out behind all that was owed ahead, as soon as it is ready; those that go out.
func (c *Conn) Answer(p api.Packet, ready bool) []api.Packet {
	if c.Closed() {
		return nil
	}
	c.owed = append(c.owed, answer{copied(p), ready})
	return c.pay()
}

// Settle lets all that is owed be ready; those that go out.
func (c *Conn) Settle() []api.Packet {
	if c.Closed() {
		return nil
	}
	for i := range c.owed {
		c.owed[i].ready = true
	}
	return c.pay()
}

// pay lets the first ones that are owed go out, as far as they are ready; they.
func (c *Conn) pay() []api.Packet {
	var paid []api.Packet
	for len(c.owed) > 0 && c.owed[0].ready {
		p := c.owed[0].packet
		c.owed = c.owed[1:]
		c.Send(p)
		paid = append(paid, p)
	}
	return paid
}

// Owes are the packets that are owed.
func (c *Conn) Owes() []api.Packet {
	if c == nil {
		return nil
	}
	var l []api.Packet
	for _, a := range c.owed {
		l = append(l, copied(a.packet))
	}
	return l
}

// Full tells whether no more messages are to go out.
func (c *Conn) Full() bool {
	return !c.Closed() && c.out.Len() >= c.full
}

// Drain are so many of the bytes that go out; they are gone.
func (c *Conn) Drain(n int) string {
	all := c.Out()
	n = min(max(n, 0), len(all))
	if n > 0 {
		c.out.Reset()
		c.out.WriteString(all[n:])
	}
	return all[:n]
}

// Out are the bytes that go out.
func (c *Conn) Out() string {
	if c == nil {
		return ""
	}
	return c.out.String()
}

// copied is a packet that shares no list with another one.
func copied(p api.Packet) api.Packet {
	p.Props, p.Will.Props = slices.Clone(p.Props), slices.Clone(p.Will.Props)
	p.Subs, p.Filters, p.Codes = slices.Clone(p.Subs), slices.Clone(p.Filters), slices.Clone(p.Codes)
	return p
}
