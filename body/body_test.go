package body_test

import (
	"errors"
	"testing"

	"towncrier/api"
	"towncrier/body"
	"towncrier/field"
)

// Frame returns what was written, unless the writer or the decoding fails, in this order.
func TestFrame(t *testing.T) {
	var asked []api.Frame
	wrong := errors.New("wrong")
	decode := func(err error) func(api.Frame) (api.Packet, error) {
		return func(f api.Frame) (api.Packet, error) {
			asked = append(asked, f)
			return api.Packet{}, err
		}
	}
	var w field.Writer
	w.Raw("ab")
	want := api.Frame{First: 0x30, Body: "ab"}
	if f, err := body.Frame(0x30, &w, decode(nil)); f != want || err != nil {
		t.Errorf("Frame = %v, %v", f, err)
	}
	if f, err := body.Frame(0x30, &w, decode(wrong)); f != (api.Frame{}) || !errors.Is(err, wrong) {
		t.Errorf("Frame that is not decoded = %v, %v", f, err)
	}
	w.U8(-1)
	if f, err := body.Frame(0x30, &w, decode(wrong)); f != (api.Frame{}) || !errors.Is(err, api.ErrTooLarge) {
		t.Errorf("Frame that is not written = %v, %v", f, err)
	}
	if len(asked) != 2 || asked[0] != want || asked[1] != want {
		t.Errorf("decoded %v", asked)
	}
}

// Id reads a number that is not 0, and tells its place if it is.
func TestId(t *testing.T) {
	for s, want := range map[string]string{
		"\x01\x02": "", "\x00\x01": "", "\xff\xff": "",
		"\x00\x00": "against the protocol, reason 130, at 3", "": "too few bytes, reason 129, at 3", "\x01": "too few bytes, reason 129, at 4",
	} {
		r := field.New("abc" + s)
		r.Raw(3)
		id, err := body.Id(r)
		if want == "" && (err != nil || id != int(s[0])<<8+int(s[1])) {
			t.Errorf("Id of % x = %d, %v", s, id, err)
		}
		if want != "" && (id != 0 || err == nil || err.Error() != want) {
			t.Errorf("Id of % x = %d, %v; want %s", s, id, err, want)
		}
	}
}

// What is written of a reason and properties is read back, and nothing is written that is not needed.
func TestReason(t *testing.T) {
	pair := []api.Prop{{Id: 38}}
	for _, x := range []struct {
		p    api.Packet
		want string
	}{
		{api.Packet{Kind: api.Puback}, ""},
		{api.Packet{Kind: api.Puback, Reason: 0x10}, "\x10"},
		{api.Packet{Kind: api.Puback, Props: pair}, "\x00\x05\x26\x00\x00\x00\x00"},
		{api.Packet{Kind: api.Auth, Reason: 0x18, Props: pair}, "\x18\x05\x26\x00\x00\x00\x00"},
	} {
		var w field.Writer
		if err := body.PutReason(&w, x.p); err != nil {
			t.Errorf("%+v: %v", x.p, err)
		}
		s, err := w.Bytes()
		if s != x.want || err != nil {
			t.Errorf("%+v: % x, %v", x.p, s, err)
		}
		code, props, err := body.TakeReason(field.New(s), x.p.Kind)
		if code != x.p.Reason || len(props) != len(x.p.Props) || err != nil {
			t.Errorf("% x: %d, %v, %v", s, code, props, err)
		}
	}
	var w field.Writer
	if err := body.PutReason(&w, api.Packet{Kind: api.Puback, Props: []api.Prop{{Id: 4}}}); !errors.Is(err, api.ErrMalformed) {
		t.Errorf("a property that is none: %v", err)
	}
	for _, s := range []string{"\x18", "\x10\x05", "\x10\x00\x00", "\x10\x02\x01\x01"} {
		if code, props, err := body.TakeReason(field.New(s), api.Puback); code != 0 || props != nil || err == nil {
			t.Errorf("% x: %d, %v, %v", s, code, props, err)
		}
	}
}

// Parts of any type are read one by one; a part's error is that of all.
func TestParts(t *testing.T) {
	letter := func(r *field.Reader) (string, error) {
		if s := r.Raw(1); s != "!" {
			return s, nil
		}
		return "", api.ErrState
	}
	if l, err := body.Parts(field.New("abc"), letter); len(l) != 3 || l[0]+l[1]+l[2] != "abc" || err != nil {
		t.Errorf("Parts = %q, %v", l, err)
	}
	if l, err := body.Parts(field.New("ab!"), letter); l != nil || !errors.Is(err, api.ErrState) {
		t.Errorf("Parts up to an error = %q, %v", l, err)
	}
	if l, err := body.Parts(field.New(""), letter); l != nil || !errors.Is(err, api.ErrProtocol) {
		t.Errorf("Parts of nothing = %q, %v", l, err)
	}
	if l, err := body.TakeCodes(field.New("\x00\x11\x8f"), api.Unsuback); len(l) != 3 || l[0] != 0 || l[1] != 0x11 || l[2] != 0x8f || err != nil {
		t.Errorf("TakeCodes = %v, %v", l, err)
	}
	if l, err := body.TakeCodes(field.New("\x00\x01"), api.Unsuback); l != nil || !errors.Is(err, api.ErrMalformed) {
		t.Errorf("TakeCodes of a wrong one = %v, %v", l, err)
	}
}
