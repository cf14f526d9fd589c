package body_test

import (
	"errors"
	"testing"

	"towncrier/api"
	"towncrier/body"
	"towncrier/field"
)

// Frame returns what was written, unless the writer or the decoding fails, in this order.
func TestFrame(t *testing.T) {
	var asked []api.Frame
	wrong := errors.New("wrong")
	decode := func(err error) func(api.Frame) (api.Packet, error) {
		return func(f api.Frame) (api.Packet, error) {
			asked = append(asked, f)
			return api.Packet{}, err
		}
	}
	var w field.Writer
	w.Raw("ab")
	want := api.Frame{First: 0x30, Body: "ab"}
	if f, err := body.Frame(0x30, &w, decode(nil)); f != want || err != nil {
		t.Errorf("Frame = %v, %v", f, err)
	}
	if f, err := body.Frame(0x30, &w, decode(wrong)); f != (api.Frame{}) || !errors.Is(err, wrong) {
		t.Errorf("Frame that is not decoded = %v, %v", f, err)
	}
	w.U8(-1)
	if f, err := body.Frame(0x30, &w, decode(wrong)); f != (api.Frame{}) || !errors.Is(err, api.ErrTooLarge) {
		t.Errorf("Frame that is not written = %v, %v", f, err)
	}
	if len(asked) != 2 || asked[0] != want || asked[1] != want {
		t.Errorf("decoded %v", asked)
	}
}

// Id reads a number that is not 0, and tells its place if it is.
func TestId(t *testing.T) {
	for s, want := range map[string]string{
		"\x01\x02": "", "\x00\x01": "", "\xff\xff": "",
		"\x00\x00": "against the protocol, reason 130, at 3", "": "too few bytes, reason 129, at 3", "\x01": "too few bytes, reason 129, at 4",
	} {
		r := field.New("abc" + s)
		r.Raw(3)
		id, err := body.Id(r)
		if want == "" && (err != nil || id != int(s[0])<<8+int(s[1])) {
			t.Errorf("Id of % x = %d, %v", s, id, err)
		}
		if want != "" && (id != 0 || err == nil || err.Error() != want) {
			t.Errorf("Id of % x = %d, %v; want %s", s, id, err, want)
		}
	}
}
