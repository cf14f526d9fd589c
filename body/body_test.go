package body_test

import (
	"errors"
	"testing"

	"towncrier/api"
	"towncrier/body"
	"towncrier/field"
)

// Frame returns what was written, unless the writer or the decoding fails, in this order.
func TestFrame(t *testing.T) {
	var asked []api.Frame
	wrong := errors.New("wrong")
	decode := func(err error) func(api.Frame) (api.Packet, error) {
		return func(f api.Frame) (api.Packet, error) {
			asked = append(asked, f)
			return api.Packet{}, err
		}
	}
	var w field.Writer
	w.Raw("ab")
	want := api.Frame{First: 0x30, Body: "ab"}
	if f, err := body.Frame(0x30, &w, decode(nil)); f != want || err != nil {
		t.Errorf("Frame = %v, %v", f, err)
	}
	if f, err := body.Frame(0x30, &w, decode(wrong)); f != (api.Frame{}) || !errors.Is(err, wrong) {
		t.Errorf("Frame that is not decoded = %v, %v", f, err)
	}
	w.U8(-1)
	if f, err := body.Frame(0x30, &w, decode(wrong)); f != (api.Frame{}) || !errors.Is(err, api.ErrTooLarge) {
		t.Errorf("Frame that is not written = %v, %v", f, err)
	}
	if len(asked) != 2 || asked[0] != want || asked[1] != want {
		t.Errorf("decoded %v", asked)
	}
}
