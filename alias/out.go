package alias

// Out are the aliases that are given to topics for a client.
type Out struct {
	most    int
	aliases map[string]int // by their topics, as it is topics that are looked for
}

// NewOut has none, of 1 to so many.
func NewOut(most int) *Out {
	return &Out{most: limit(most), aliases: map[string]int{}}
}

// Name is how a topic is told: a topic, and an alias (0: none).
func (a *Out) Name(topic string) (string, int) {
	if a == nil || topic == "" {
		return topic, 0
	}
	if alias, is := a.aliases[topic]; is {
		return "", alias
	}
	// They are given in increasing order, and none is taken away.
	alias := len(a.aliases) + 1
	if alias > a.most {
		return topic, 0
	}
	a.aliases[topic] = alias
	return topic, alias
}
