// Package body holds what the layers of the packets (8 to 14) share: how what follows a packet's length is written and read.
package body

import (
	"towncrier/api"
	"towncrier/field"
)

// Frame is a first byte with what was written behind it, or the first error: that of the writer, or that with which it is decoded.
func Frame(first int, w *field.Writer, decode func(api.Frame) (api.Packet, error)) (api.Frame, error) {
	s, err := w.Bytes()
	if err != nil {
		return api.Frame{}, err
	}
	f := api.Frame{First: first, Body: s}
	if _, err := decode(f); err != nil {
		return api.Frame{}, err
	}
	return f, nil
}
