package rules

import (
	"towncrier/api"
	"towncrier/packet"
	"towncrier/prop"
	"towncrier/reason"
)

// The properties by which a client says what it takes, and that of a Publish that has an alias.
const (
	receive = 33
	aliases = 34
	aliased = 35
	largest = 39
)

// mostSent is how many messages may be in transit to a client that does not say so.
const mostSent = 65535

// least and exactly are the QoS with which messages are in transit.
const (
	least   = 1
	exactly = 2
)

// note is what may be answered: by which kind of packet, with which number, and with how many codes, or, of a Pubrel, whether it refuses.
type note struct{ kind, id, n int }

// refusing is what a note says of a Pubrel that says that there is no such message.
const refusing = 1

// watch is what was seen so far of a connection, as far as rules depend on it.
type watch struct {
	receive   int
	size      int
	aliases   int
	asked     bool // a Connect arrived
	bad       bool // Bad was seen,
	shut      bool // and behind the last one the connection was closed
	over      bool // nothing may go out any more
	greeted   bool // a Connack went out,
	welcome   bool // with 0,
	present   bool // of a session that was there
	notes     map[note]int
	transit   map[int]int // the QoS of messages, by their numbers
	announced map[int]struct{}
}

// arrive notes a packet that arrives.
func (w *watch) arrive(p api.Packet) {
	switch p.Kind {
	case api.Connect:
		w.connect(p)
	case api.Publish:
		switch p.Qos {
		case least:
			w.notes[note{api.Puback, p.Id, 0}]++
		case exactly:
			w.notes[note{api.Pubrec, p.Id, 0}]++
		}
	case api.Puback:
		w.end(p.Id, least)
	case api.Pubrec:
		w.notes[note{api.Pubrel, p.Id, refusing}]++
		if reason.Bad(p.Reason) {
			w.end(p.Id, exactly)
		} else {
			w.notes[note{api.Pubrel, p.Id, 0}]++
		}
	case api.Pubrel:
		w.notes[note{api.Pubcomp, p.Id, 0}]++
	case api.Pubcomp:
		w.end(p.Id, exactly)
	case api.Subscribe:
		w.notes[note{api.Suback, p.Id, len(p.Subs)}]++
	case api.Unsubscribe:
		w.notes[note{api.Unsuback, p.Id, len(p.Filters)}]++
	case api.Pingreq:
		w.notes[note{api.Pingresp, 0, 0}]++
	}
}

// connect takes what the first Connect says, unless it is behind bytes that are no packet.
func (w *watch) connect(p api.Packet) {
	if w.asked || w.bad {
		return
	}
	w.asked = true
	w.receive = prop.Number(p.Props, receive, mostSent)
	w.size = prop.Number(p.Props, largest, api.MaxVar)
	w.aliases = prop.Number(p.Props, aliases, 0)
}

// end is that a message with a QoS is in transit no more.
func (w *watch) end(id, qos int) {
	if w.transit[id] == qos {
		delete(w.transit, id)
	}
}

// broken is the least rule that a packet breaks that goes out, 0 if it breaks none.
func (w *watch) broken(p api.Packet) int {
	sent := p.Kind == api.Publish && p.Qos > 0
	_, again := w.transit[p.Id]
	switch {
	case !w.greeted && p.Kind != api.Connack:
		return api.RuleFirst
	case isAck(p.Kind) && !w.may(p):
		return ruleOf(p.Kind)
	case sent && again:
		return api.RuleId
	case sent && len(w.transit)+1 > w.receive:
		return api.RuleReceive
	case (w.welcome || welcomes(p)) && !packet.Fits(p, w.size):
		return api.RuleSize
	case p.Kind == api.Publish && !w.isTold(p):
		return api.RuleAlias
	case !isAck(p.Kind) && !w.may(p):
		return ruleOf(p.Kind)
	case w.over || w.greeted && p.Kind == api.Connack:
		return api.RuleLast
	case !isServers(p.Kind):
		return api.RuleKind
	}
	return 0
}

// leave notes a packet that goes out.
func (w *watch) leave(p api.Packet) {
	if n, is := answers(p); is && w.notes[n] > 0 {
		w.notes[n]--
	}
	switch p.Kind {
	case api.Connack:
		w.greeted, w.welcome, w.present = true, welcomes(p), p.Present
		w.over = w.over || !welcomes(p)
	case api.Disconnect:
		w.over = true
	case api.Publish:
		if p.Qos > 0 {
			w.transit[p.Id] = p.Qos
		}
		if n := alias(p); p.Topic != "" && n > 0 {
			w.announced[n] = struct{}{}
		}
	}
}

// may tells whether a packet that is an answer answers something, or need not.
func (w *watch) may(p api.Packet) bool {
	n, is := answers(p)
	return !is || w.notes[n] > 0 || w.present && p.Kind == api.Pubrel && p.Reason == api.Success
}

// isTold tells whether the topic of a Publish is told, by an alias that the client takes.
func (w *watch) isTold(p api.Packet) bool {
	n := alias(p)
	_, is := w.announced[n]
	return n <= w.aliases && (p.Topic != "" || is)
}

// alias is that of a Publish, 0 without one.
func alias(p api.Packet) int {
	return prop.Number(p.Props, aliased, 0)
}

// welcomes tells whether a packet is a Connack with 0.
func welcomes(p api.Packet) bool {
	return p.Kind == api.Connack && p.Reason == api.Success
}

// answers is what a packet answers; false: it is no answer.
func answers(p api.Packet) (note, bool) {
	switch p.Kind {
	case api.Puback, api.Pubrec, api.Pubcomp:
		return note{p.Kind, p.Id, 0}, true
	case api.Pubrel:
		if p.Reason != api.Success {
			return note{p.Kind, p.Id, refusing}, true
		}
		return note{p.Kind, p.Id, 0}, true
	case api.Suback, api.Unsuback:
		return note{p.Kind, p.Id, len(p.Codes)}, true
	case api.Pingresp:
		return note{p.Kind, 0, 0}, true
	}
	return note{}, false
}

// isAck tells whether packets of a kind are about messages.
func isAck(kind int) bool {
	return kind >= api.Puback && kind <= api.Pubcomp
}

// ruleOf is the rule that an answer of a kind breaks that answers nothing.
func ruleOf(kind int) int {
	switch kind {
	case api.Puback, api.Pubrec:
		return api.RuleAck
	case api.Pubcomp:
		return api.RuleComp
	case api.Pubrel:
		return api.RuleRel
	case api.Pingresp:
		return api.RulePing
	}
	return api.RuleSub
}

// isServers tells whether a server may send packets of a kind.
func isServers(kind int) bool {
	switch kind {
	case api.Connect, api.Subscribe, api.Unsubscribe, api.Pingreq:
		return false
	}
	return kind >= api.Connect && kind <= api.Auth
}
