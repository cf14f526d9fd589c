package broker

import (
	"towncrier/api"
	"towncrier/conn"
	"towncrier/fault"
	"towncrier/reason"
	"towncrier/terms"
	"towncrier/topic"
	"towncrier/will"
)

// take takes a packet that came in on a connection.
func (b *Broker) take(c *conn.Conn, p api.Packet) {
	if c.Client() == "" {
		b.takeFirst(c, p)
		return
	}
	switch p.Kind {
	case api.Publish:
		b.publish(c, p)
	case api.Puback, api.Pubrec, api.Pubcomp:
		b.acknowledge(c, p)
	case api.Pubrel:
		b.release(c, p)
	case api.Subscribe:
		b.subscribe(c, p)
	case api.Unsubscribe:
		b.unsubscribe(c, p)
	case api.Pingreq:
		c.Send(api.Packet{Kind: api.Pingresp})
	case api.Disconnect:
		b.disconnect(c, p)
	default:
		b.fail(c, api.Protocol)
	}
}

// takeFirst takes the first packet of a connection.
func (b *Broker) takeFirst(c *conn.Conn, p api.Packet) {
	if p.Kind == api.Connect {
		b.connect(c, p)
	} else {
		b.fail(c, api.Protocol)
	}
}

// disconnect lets a client end its connection.
func (b *Broker) disconnect(c *conn.Conn, p api.Packet) {
	expiry, ok := terms.Ended(c.Terms(), p)
	if !ok {
		b.fail(c, api.Protocol)
		return
	}
	b.sessions[c.Client()].SetExpiry(expiry)
	b.end(c, will.Kept(p.Reason))
}

// publish takes a message.
func (b *Broker) publish(c *conn.Conn, p api.Packet) {
	name, err := c.Topic(p)
	if err != nil {
		b.fail(c, fault.Reason(err))
		return
	}
	if !topic.IsName(name) {
		b.fail(c, api.BadTopic)
		return
	}
	if p.Qos > 0 && !b.isNew(c, p) {
		return
	}
	p.Topic = name
	code, waits := b.route(will.Of(p, c.Client(), b.now))
	switch p.Qos {
	case 1:
		b.answer(c, api.Packet{Kind: api.Puback, Id: p.Id, Reason: code}, !waits)
	case 2:
		b.answer(c, api.Packet{Kind: api.Pubrec, Id: p.Id, Reason: code}, !waits)
	}
}

// isNew tells whether the number of a message is new; if it is not, that is answered.
func (b *Broker) isNew(c *conn.Conn, p api.Packet) bool {
	switch b.sessions[c.Client()].Take(p.Id, p.Qos) {
	case api.InFull:
		b.fail(c, api.TooMuch)
		return false
	case api.InWrong:
		b.fail(c, api.Protocol)
		return false
	case api.InAgain:
		b.answer(c, api.Packet{Kind: api.Pubrec, Id: p.Id}, !b.groups.Waits())
		return false
	}
	return true
}

// answer owes the answer to a message.
func (b *Broker) answer(c *conn.Conn, p api.Packet, ready bool) {
	b.pay(c, c.Answer(p, ready))
}

// pay frees the numbers of messages whose answers went out, and behind which nothing follows.
func (b *Broker) pay(c *conn.Conn, l []api.Packet) {
	s := b.sessions[c.Client()]
	for _, p := range l {
		if p.Kind == api.Puback || p.Kind == api.Pubrec && reason.Bad(p.Reason) {
			s.Done(p.Id)
		}
	}
}

// release takes a Pubrel.
func (b *Broker) release(c *conn.Conn, p api.Packet) {
	code := api.IdNotFound
	if b.sessions[c.Client()].Release(p.Id) {
		code = api.Success
	}
	c.Send(api.Packet{Kind: api.Pubcomp, Id: p.Id, Reason: code})
}

// acknowledge takes a Puback, a Pubrec or a Pubcomp.
func (b *Broker) acknowledge(c *conn.Conn, p api.Packet) {
	client := c.Client()
	result, m := b.sessions[client].Ack(p)
	switch result {
	case api.OutWrong:
		b.fail(c, api.Protocol)
	case api.OutNone:
		if p.Kind == api.Pubrec {
			c.Send(api.Packet{Kind: api.Pubrel, Id: p.Id, Reason: api.IdNotFound})
		}
	case api.OutBack:
		b.groups.Back(m, client)
	case api.OutDone:
		b.groups.Done(m, client)
	case api.OutRel:
		b.groups.Done(m, client)
		c.Send(api.Packet{Kind: api.Pubrel, Id: p.Id})
	}
}
