package broker

import (
	"strconv"

	"towncrier/api"
	"towncrier/conn"
	"towncrier/prop"
	"towncrier/session"
	"towncrier/terms"
	"towncrier/topic"
)

// method is the property of a Connect that asks for a way to tell who one is; there is none.
const method = 21

// longest is how many bytes the name of a client has at most.
const longest = 64

// assigned is what the names begin with of clients that have none.
const assigned = "auto"

// connect takes a Connect.
func (b *Broker) connect(c *conn.Conn, p api.Packet) {
	if code := wrong(p); code != api.Success {
		b.refuse(c, code)
		return
	}
	client, given := p.Client, ""
	if client == "" {
		given = b.unused()
		client = given
	}
	if old := b.of(client); old != nil {
		b.fail(old, api.TakenOver)
	}
	if p.Clean {
		b.remove(client)
	} else {
		delete(b.wills, client)
	}
	s, present := b.sessions[client]
	if !present && len(b.sessions) >= b.bounds.Clients {
		b.refuse(c, api.QuotaReached)
		return
	}
	if !present {
		s = session.New(client, b.bounds)
		b.sessions[client] = s
	}
	t := terms.Of(b.bounds, p)
	s.Begin(t, p.Will)
	c.Begin(client, t)
	if !welcome(c, present, terms.Reply(b.bounds, p, given)) {
		b.end(c, false)
		return
	}
	b.groups.Online(client, true)
}

// wrong is why a Connect is refused, if it is.
func wrong(p api.Packet) int {
	_, asks := prop.Get(p.Props, method)
	switch {
	case asks:
		return api.BadAuth
	case len(p.Client) > longest:
		return api.BadClient
	case p.Will.Has && !topic.IsName(p.Will.Topic):
		return api.BadTopic
	}
	return api.Success
}

// refuse ends a connection that has no client yet.
func (b *Broker) refuse(c *conn.Conn, code int) {
	c.Send(api.Packet{Kind: api.Connack, Reason: code})
	b.end(c, false)
}

// welcome tells a client that its connection begins, with properties if these fit; whether it was told.
func welcome(c *conn.Conn, present bool, props []api.Prop) bool {
	p := api.Packet{Kind: api.Connack, Present: present, Props: props}
	if c.Send(p) {
		return true
	}
	p.Props = nil
	return c.Send(p)
}

// unused is the name of a client that has none.
func (b *Broker) unused() string {
	for n := 1; ; n++ {
		name := assigned + strconv.Itoa(n)
		if _, is := b.sessions[name]; !is {
			return name
		}
	}
}
