package session

import (
	"towncrier/api"
	"towncrier/outq"
	"towncrier/queue"
)

// exactly is the greatest QoS.
const exactly = 2

// Push lets a message wait; whether it does.
func (s *Session) Push(m api.Msg) bool {
	if s.none() || m.Qos == 0 && !s.kept.online {
		return false
	}
	return s.kept.waits.Push(m)
}

// Next is the packet that is sent once more, or that of the first message that waits, if it may be sent.
func (s *Session) Next(now int) (api.Packet, bool) {
	if !s.Online() {
		return api.Packet{}, false
	}
	k := s.kept
	k.again.skip(k.out)
	if left := len(k.again.list); left > 0 {
		if k.out.Len()-left >= k.terms.Receive {
			return api.Packet{}, false
		}
		return k.again.cut(), true
	}
	m, ok := k.waits.First(now)
	if !ok {
		return api.Packet{}, false
	}
	p, ok := s.Give(m, now)
	if ok {
		k.waits.Pop(now)
	}
	return p, ok
}

// Give is the packet of a message that did not wait, if it may be sent.
func (s *Session) Give(m api.Msg, now int) (api.Packet, bool) {
	if !s.Online() || m.Qos > 0 && s.Room() == 0 {
		return api.Packet{}, false
	}
	told, ok := queue.Left(m, now)
	if !ok {
		return api.Packet{}, false
	}
	qos, id := min(m.Qos, exactly), 0
	if qos > 0 {
		if id, ok = s.kept.out.Send(m, qos); !ok {
			return api.Packet{}, false
		}
	}
	return outq.Packet(told, qos, id, false), true
}

// Room is how many messages of QoS 1 and 2 may be sent.
func (s *Session) Room() int {
	if !s.Online() || len(s.kept.again.list) > 0 || s.kept.out.Len() >= s.kept.terms.Receive {
		return 0
	}
	return s.kept.terms.Receive - s.kept.out.Len()
}

// Ack takes an acknowledgement: what becomes of it, and the message.
func (s *Session) Ack(p api.Packet) (int, api.Msg) {
	if s.none() {
		return api.OutNone, api.Msg{}
	}
	s.kept.again.changed = true
	return s.kept.out.Ack(p)
}

// Back takes the messages of groups away that did not come; they.
func (s *Session) Back() []api.Msg {
	if s.none() {
		return nil
	}
	s.kept.again.changed = true
	return s.kept.out.Group()
}

// Flights are the messages under way.
func (s *Session) Flights() []api.Flight {
	if s.none() {
		return nil
	}
	return s.kept.out.All()
}

// Waiting are the messages that wait.
func (s *Session) Waiting() []api.Msg {
	if s.none() {
		return nil
	}
	return s.kept.waits.All()
}
