package broker

import (
	"towncrier/api"
	"towncrier/conn"
	"towncrier/prop"
	"towncrier/share"
)

// When retained messages are sent to who subscribes.
const (
	always  = 0
	ifIsNew = 1
)

// subscribe takes a Subscribe.
func (b *Broker) subscribe(c *conn.Conn, p api.Packet) {
	for _, x := range p.Subs {
		if parsed, _ := share.Parse(x.Filter); parsed.Shared && x.NoLocal {
			b.fail(c, api.Protocol)
			return
		}
	}
	id := prop.Number(p.Props, subscribed, 0)
	var codes []int
	var asked []api.Sub // those that retained messages are sent for
	for _, x := range p.Subs {
		parsed, ok := share.Parse(x.Filter)
		if !ok {
			codes = append(codes, api.BadFilter)
			continue
		}
		codes = append(codes, x.Qos)
		isNew := b.add(c.Client(), parsed, x, id)
		if !parsed.Shared && (x.Retain == always || x.Retain == ifIsNew && isNew) {
			asked = append(asked, x)
		}
	}
	c.Send(api.Packet{Kind: api.Suback, Id: p.Id, Codes: codes})
	for _, x := range asked {
		b.pushRetained(c.Client(), x, id)
	}
}

// add adds a client's subscription; whether it is new.
func (b *Broker) add(client string, parsed api.Share, x api.Sub, id int) bool {
	if parsed.Shared {
		b.groups.Join(parsed, client, x.Qos)
	} else {
		b.subs.Add(x.Filter, client)
	}
	return b.sessions[client].Subscribe(x, id)
}

// pushRetained lets the retained messages wait for a client that a subscription takes.
func (b *Broker) pushRetained(client string, x api.Sub, id int) {
	for _, m := range b.retained.Match(x.Filter) {
		m.Qos, m.Retain, m.Props = min(m.Qos, x.Qos), true, marked(m.Props, id)
		b.sessions[client].Push(m)
	}
}

// unsubscribe takes an Unsubscribe.
func (b *Broker) unsubscribe(c *conn.Conn, p api.Packet) {
	client := c.Client()
	var codes []int
	for _, filter := range p.Filters {
		if !b.sessions[client].Unsubscribe(filter) {
			codes = append(codes, api.NoSub)
			continue
		}
		b.forget(client, filter)
		codes = append(codes, api.Success)
	}
	c.Send(api.Packet{Kind: api.Unsuback, Id: p.Id, Codes: codes})
}
