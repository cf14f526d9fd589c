package body

import (
	"towncrier/api"
	"towncrier/fault"
	"towncrier/field"
	"towncrier/prop"
	"towncrier/reason"
)

// PutReason writes the reason and the properties with which a packet ends, as far as they are needed to tell them.
func PutReason(w *field.Writer, p api.Packet) error {
	if len(p.Props) == 0 {
		if p.Reason != api.Success {
			w.U8(p.Reason)
		}
		return nil
	}
	props, err := prop.Encode(p.Kind, p.Props)
	if err != nil {
		return err
	}
	w.U8(p.Reason)
	w.Raw(props)
	return nil
}

// TakeReason reads the reason and the properties with which a packet ends.
func TakeReason(r *field.Reader, kind int) (int, []api.Prop, error) {
	at, code := r.At(), api.Success
	var props []api.Prop
	if r.Left() > 0 {
		if code = r.U8(); !reason.Allowed(kind, code) {
			return 0, nil, fault.New(api.Malformed, at, api.ErrMalformed)
		}
	}
	if r.Left() > 0 {
		var err error
		if props, err = prop.Read(r, kind); err != nil {
			return 0, nil, err
		}
	}
	if err := r.Done(); err != nil {
		return 0, nil, err
	}
	return code, props, nil
}
