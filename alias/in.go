package alias

import (
	"towncrier/api"
	"towncrier/fault"
)

// In are the aliases that a client gives to topics.
type In struct {
	most   int
	topics []string // by their aliases, from 1 on; an empty one is none
}

// NewIn has none, of 1 to so many.
func NewIn(most int) *In {
	return &In{most: limit(most)}
}

// Topic is the topic of a message with a topic and an alias (0: none).
func (a *In) Topic(topic string, alias int) (string, error) {
	if alias == 0 {
		return orMissing(topic)
	}
	if a == nil || alias < 0 || alias > a.most {
		return "", fault.New(api.BadAlias, 0, api.ErrProtocol)
	}
	if topic == "" {
		return orMissing(a.get(alias))
	}
	a.set(alias, topic)
	return topic, nil
}

// orMissing is a topic, or the error that it is none.
func orMissing(topic string) (string, error) {
	if topic == "" {
		return "", fault.New(api.Protocol, 0, api.ErrProtocol)
	}
	return topic, nil
}

// get is the topic of an alias, if it has one.
func (a *In) get(alias int) string {
	if alias > len(a.topics) {
		return ""
	}
	return a.topics[alias-1]
}

// set lets an alias have a topic.
func (a *In) set(alias int, topic string) {
	// Most clients use few aliases, so the list is only as long as the greatest one that has a topic.
	if more := alias - len(a.topics); more > 0 {
		a.topics = append(a.topics, make([]string, more)...)
	}
	a.topics[alias-1] = topic
}
