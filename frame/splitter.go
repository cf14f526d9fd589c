package frame

import (
	"errors"

	"towncrier/api"
	"towncrier/fault"
	"towncrier/varint"
)

// longest is how many bytes tell a packet's length at most.
const longest = 4

// Splitter cuts packets out of bytes that come piece by piece.
type Splitter struct {
	most  int
	bytes []byte // those up to at were returned
	at    int
	err   error
	lost  int // how many bytes follow the packets, once there is an error: then no one needs the bytes themselves
}

// New lets packets have so many bytes at most.
func New(most int) *Splitter { return &Splitter{most: most} }

// Feed takes a piece.
func (x *Splitter) Feed(s string) {
	if x == nil {
		return
	}
	if x.err != nil {
		x.lost += len(s)
		return
	}
	// Only when most bytes were returned are the others moved, so that each is moved a few times at most.
	if x.at > len(x.bytes)/2 {
		x.bytes = append(x.bytes[:0], x.bytes[x.at:]...)
		x.at = 0
	}
	x.bytes = append(x.bytes, s...)
}

// Next is the next packet that is whole; false: there is none yet, or never.
func (x *Splitter) Next() (api.Frame, bool, error) {
	if x == nil {
		return api.Frame{}, false, nil
	}
	if x.err != nil {
		return api.Frame{}, false, x.err
	}
	head, size, err := x.head()
	if err != nil {
		x.lost, x.err = x.Left(), err
		x.bytes = nil
		return api.Frame{}, false, err
	}
	if size == 0 || size > x.Left() {
		return api.Frame{}, false, nil
	}
	packet := x.bytes[x.at : x.at+size]
	x.at += size
	if x.Left() == 0 {
		x.bytes, x.at = nil, 0
	}
	return api.Frame{First: int(packet[0]), Body: string(packet[head:])}, true, nil
}

// Left is how many bytes wait.
func (x *Splitter) Left() int {
	if x == nil {
		return 0
	}
	if x.err != nil {
		return x.lost
	}
	return len(x.bytes) - x.at
}

// head is how many bytes of the next packet precede its body, and how many it has in all; 0 as long as too few are there to tell.
func (x *Splitter) head() (int, int, error) {
	if x.Left() == 0 {
		return 0, 0, nil
	}
	if err := Check(int(x.bytes[x.at])); err != nil {
		return 0, 0, err
	}
	from := x.at + 1
	body, many, err := varint.Take(string(x.bytes[from:min(from+longest, len(x.bytes))]))
	if errors.Is(err, api.ErrShort) {
		return 0, 0, nil
	}
	if err != nil {
		return 0, 0, fault.Deeper(err, 1)
	}
	head := 1 + many
	if head+body > x.most {
		return 0, 0, fault.New(api.TooLarge, 0, api.ErrTooLarge)
	}
	return head, head + body, nil
}
