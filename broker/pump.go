package broker

import (
	"towncrier/api"
	"towncrier/conn"
	"towncrier/session"
)

// pump lets all go out that may.
func (b *Broker) pump() {
	if b.none() {
		return
	}
	b.groups.Expire(b.now)
	for _, c := range b.present() {
		b.empty(c)
	}
	refused := map[string]struct{}{} // the clients to whom something did not fit
	for b.deal(refused) {
	}
}

// empty lets all go out that waits for the client of a connection, as far as it may.
func (b *Broker) empty(c *conn.Conn) {
	s := b.sessions[c.Client()]
	for !c.Full() {
		p, ok := s.Next(b.now)
		if !ok {
			return
		}
		if c.Send(p) || p.Id == 0 {
			continue
		}
		// What the client can't get counts as if it had arrived, lest it hinder what comes behind it.
		for _, kind := range []int{api.Puback, api.Pubrec, api.Pubcomp} {
			s.Ack(api.Packet{Kind: kind, Id: p.Id})
		}
	}
}

// deal sends the next message of a group to a client that is free, but for some; whether there was one.
func (b *Broker) deal(refused map[string]struct{}) bool {
	m, client, ok := b.groups.Next(b.free(refused))
	if !ok {
		return false
	}
	s, again := b.sessions[client], b.groups.Again(m)
	m.Qos = min(m.Qos, b.groups.Qos(m.Group, client))
	p, ok := s.Give(m, b.now)
	if !ok || !b.groups.Sent(m, client) {
		refused[client] = struct{}{}
		return true
	}
	p.Dup = p.Qos > 0 && again
	switch {
	case !b.of(client).Send(p):
		b.groups.Back(m, client)
		reject(s, p)
		refused[client] = struct{}{}
	case p.Qos == 0:
		b.groups.Done(m, client)
	}
	return true
}

// reject tells a session that a Publish did not come, if it has a number.
func reject(s *session.Session, p api.Packet) {
	switch p.Qos {
	case 1:
		s.Ack(api.Packet{Kind: api.Puback, Id: p.Id, Reason: api.Unspecified})
	case 2:
		s.Ack(api.Packet{Kind: api.Pubrec, Id: p.Id, Reason: api.Unspecified})
	}
}

// free are the clients that may get a message of a group, but for some.
func (b *Broker) free(refused map[string]struct{}) []string {
	var l []string
	for _, c := range b.present() {
		client := c.Client()
		if _, is := refused[client]; !is && !c.Full() && b.sessions[client].Room() > 0 {
			l = append(l, client)
		}
	}
	return l
}
