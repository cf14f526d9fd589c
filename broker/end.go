package broker

import (
	"towncrier/api"
	"towncrier/conn"
	"towncrier/reason"
	"towncrier/share"
	"towncrier/will"
)

// fail ends a connection, and tells it the reason.
func (b *Broker) fail(c *conn.Conn, code int) {
	switch {
	case c.Client() != "":
		c.Send(api.Packet{Kind: api.Disconnect, Reason: reason.Close(code)})
	case reason.Allowed(api.Connack, code):
		c.Send(api.Packet{Kind: api.Connack, Reason: code})
	default:
		c.Send(api.Packet{Kind: api.Connack, Reason: api.Unspecified})
	}
	b.end(c, true)
}

// end ends a connection, with the will of its client, or without it.
func (b *Broker) end(c *conn.Conn, willed bool) {
	owed := c.Owes()
	c.Close()
	client := c.Client()
	s := b.session(client)
	if s == nil {
		return
	}
	for _, p := range owed {
		if p.Kind == api.Puback {
			s.Done(p.Id)
		}
	}
	s.Back()
	s.End(b.now)
	b.groups.Online(client, false)
	if willed {
		b.leave(client, s.Will(), s.Terms().Expiry)
	} else {
		s.SetWill(api.Last{})
	}
	if s.Terms().Expiry == 0 {
		b.remove(client)
	}
}

// leave sends the will of a client whose connection ended, or lets it wait.
func (b *Broker) leave(client string, l api.Last, expiry int) {
	if !l.Has {
		return
	}
	if at := will.At(l, expiry, b.now); at > b.now {
		b.wills[client] = delayed{l, at}
		return
	}
	b.route(will.Msg(l, client, b.now))
}

// sendDelayed sends the will of a client that waits, if there is one.
func (b *Broker) sendDelayed(client string) {
	l, is := b.wills[client]
	if !is {
		return
	}
	delete(b.wills, client)
	b.route(will.Msg(l.Last, client, b.now))
}

// remove removes the session of a client, if there is one.
func (b *Broker) remove(client string) {
	s, is := b.sessions[client]
	if !is {
		return
	}
	delete(b.sessions, client)
	for _, filter := range s.Filters() {
		b.forget(client, filter)
	}
	b.sendDelayed(client)
}

// forget removes a client's subscription, but from its session.
func (b *Broker) forget(client, filter string) {
	if x, _ := share.Parse(filter); x.Shared {
		b.groups.Leave(x, client)
	} else {
		b.subs.Drop(filter, client)
	}
}
