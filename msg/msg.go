// Package msg holds what the layers that keep messages share: copies of them, and whether their time has come.
package msg

import (
	"slices"

	"towncrier/api"
)

// Copy is a message that shares no list with another one.
func Copy(m api.Msg) api.Msg {
	m.Props = slices.Clone(m.Props)
	return m
}

// Copies are messages that share no lists with others.
func Copies(l []api.Msg) []api.Msg {
	var out []api.Msg
	for _, m := range l {
		out = append(out, Copy(m))
	}
	return out
}

// Expired tells whether a message is to be thrown away at a time.
func Expired(m api.Msg, now int) bool {
	return m.Until > 0 && m.Until <= now
}
