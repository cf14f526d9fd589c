package body

import (
	"towncrier/api"
	"towncrier/fault"
	"towncrier/field"
)

// Id reads the number of a packet, which is not 0.
func Id(r *field.Reader) (int, error) {
	at := r.At()
	id := r.U16()
	if err := r.Err(); err != nil {
		return 0, err
	}
	if id == 0 {
		return 0, fault.New(api.Protocol, at, api.ErrProtocol)
	}
	return id, nil
}
