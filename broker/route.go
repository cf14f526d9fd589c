package broker

import (
	"errors"

	"towncrier/api"
	"towncrier/msg"
)

// subscribed is the property of a message that tells by which subscription it comes.
const subscribed = 11

// notHere is the reason of a message that can't be numbered.
const notHere = 0x83

// route passes a message on to all that subscribed to its topic; with which code it is answered, and whether that waits for the journal.
func (b *Broker) route(m api.Msg) (int, bool) {
	if m.Retain {
		b.retained.Put(m)
	}
	keys := b.groups.Match(m.Topic)
	if err := b.groups.Publish(m, keys, b.now); errors.Is(err, api.ErrQuota) {
		return api.QuotaReached, false
	} else if err != nil {
		return notHere, false
	}
	copies := b.copies(m)
	for _, c := range copies {
		b.sessions[c.client].Push(c.Msg)
	}
	if len(keys) == 0 && len(copies) == 0 {
		return api.NoMatch, false
	}
	return api.Success, m.Qos > 0 && len(keys) > 0
}

// sent is what a message is for a client.
type sent struct {
	api.Msg
	client string
}

// copies are what a message is for each client with ordinary subscriptions that match its topic.
func (b *Broker) copies(m api.Msg) []sent {
	var l []sent
	for _, e := range b.subs.Match(m.Topic) {
		x, id, _ := b.sessions[e.Who].Sub(e.Filter)
		if x.NoLocal && m.From == e.Who {
			continue
		}
		// Those of one client come one after the other.
		if len(l) == 0 || l[len(l)-1].client != e.Who {
			l = append(l, sent{msg.Copy(m), e.Who})
			l[len(l)-1].Qos, l[len(l)-1].Retain = 0, false
		}
		c := &l[len(l)-1]
		c.Qos = max(c.Qos, min(m.Qos, x.Qos))
		c.Retain = c.Retain || m.Retain && x.AsIs
		c.Props = marked(c.Props, id)
	}
	return l
}

// marked are properties, and behind them that of a subscription with an identifier, if it has one.
func marked(l []api.Prop, id int) []api.Prop {
	if id > 0 {
		l = append(l, api.Prop{Id: subscribed, N: id})
	}
	return l
}
