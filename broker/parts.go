package broker

import (
	"maps"
	"slices"

	"towncrier/api"
	"towncrier/groups"
	"towncrier/session"
)

// IsOpen tells whether a connection is open.
func (b *Broker) IsOpen(k int) bool {
	return !b.at(k).Closed()
}

// Client is the client of an open connection, nothing if it has none yet.
func (b *Broker) Client(k int) string {
	c := b.at(k)
	if c.Closed() {
		return ""
	}
	return c.Client()
}

// Out are the bytes that go out on a connection.
func (b *Broker) Out(k int) string {
	return b.at(k).Out()
}

// Now is the time.
func (b *Broker) Now() int {
	if b == nil {
		return 0
	}
	return b.now
}

// Clients are those that have a session, rising.
func (b *Broker) Clients() []string {
	if b == nil {
		return nil
	}
	return slices.Sorted(maps.Keys(b.sessions))
}

// Flights are the messages under way to a client.
func (b *Broker) Flights(client string) []api.Flight {
	return b.session(client).Flights()
}

// Waiting are the messages that wait for it.
func (b *Broker) Waiting(client string) []api.Msg {
	return b.session(client).Waiting()
}

// Filters are its subscriptions' filters.
func (b *Broker) Filters(client string) []string {
	return b.session(client).Filters()
}

// Keys are all groups' keys.
func (b *Broker) Keys() []string {
	return b.all().Keys()
}

// Items are a group's messages.
func (b *Broker) Items(key string) []api.Item {
	return b.all().Items(key)
}

// Members are a group's members.
func (b *Broker) Members(key string) []api.Member {
	return b.all().Members(key)
}

// Retained are the retained messages that a filter takes.
func (b *Broker) Retained(filter string) []api.Msg {
	if b == nil {
		return nil
	}
	return b.retained.Match(filter)
}

// Waits tells whether some of the journal is not sure.
func (b *Broker) Waits() bool {
	return b.all().Waits()
}

// session is that of a client, if it has one.
func (b *Broker) session(client string) *session.Session {
	if b == nil {
		return nil
	}
	return b.sessions[client]
}

// all are the groups.
func (b *Broker) all() *groups.Groups {
	if b == nil {
		return nil
	}
	return b.groups
}
